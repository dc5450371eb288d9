/- The program's own: a script's world that nothing was done in. -/
import Derived.Test.YtmdgkjbiicaljahGreatDoorJointSlotsGo
set_option linter.unusedVariables false
set_option linter.unusedSimpArgs false
namespace Go.Proofs.YtmdgkjbiicaljahGreatDoor
open Go.RowKit

theorem infoRepl : Tryz.prog.info? 49 = some Tryz.t49 := by kernel_rfl
theorem zeroReplV : Tryz.t49.zero = some (.agg #[.int .i64 0, .int .i64 0, .int .i64 0, .bool false, .slice none 0 0, .int .i64 0, .slice none 0 0, .slice none 0 0, .slice none 0 0, .slice none 0 0]) := by kernel_rfl
theorem sizeRepl : Tryz.t49.size = 10 := by kernel_rfl
theorem bytesRepl : Tryz.t49.bytes = 160 := by kernel_rfl
theorem infoSlots : Tryz.prog.info? 42 = some Tryz.t42 := by kernel_rfl
theorem zeroSlotsV : Tryz.t42.zero = some (.slice none 0 0) := by kernel_rfl
theorem sizeSlots : Tryz.t42.size = 1 := by kernel_rfl
theorem bytesSlots : Tryz.t42.bytes = 24 := by kernel_rfl
theorem infoCust : Tryz.prog.info? 105 = some Tryz.t105 := by kernel_rfl
theorem zeroCustV : Tryz.t105.zero = some (.agg #[.int .i64 0, .int .i64 0, .int .i64 0, .int .i64 0, .int .i64 0, .int .i64 0, .int .i64 0, .string ⟨#[]⟩]) := by kernel_rfl
theorem sizeCust : Tryz.t105.size = 8 := by kernel_rfl
theorem bytesCust : Tryz.t105.bytes = 72 := by kernel_rfl

def preN (k c : Nat) : NetM := ⟨(List.range k).map fun (i : Nat) => repl0 i,List.replicate k newSlots,[],custs0 c,[],[]⟩
theorem pre_start (c : Nat) : preN 3 c = startN c := rfl
theorem start_slots : loadE newSlots = 0 ∧ loadK newSlots = freshK ∧ TextsIn newSlots ∧ newSlots.length = 2 := by
 have h:=(start_ok 1 (by omega) (by omega)).slot 0 (by omega)
 have e:((startN 1).repl 0).kept=freshK:=(newrR_may 0 (by omega) freshK fresh_fault).2.2
 have e2:(startN 1).slot 0=newSlots:=rfl
 rw[e,e2] at h
 exact⟨h.e,h.k,slot_texts h,h.two⟩

theorem NetRows.addR {w wB : World} {B b : Nat} {N : NetM} {vr vs vf vc vt vk v' : Value} (h : NetRows w B N vr vs vf vc vt vk) (hx : Box w b 87 [vr,vs,vf,vc,vt,vk]) (hB : B ≤ w.heap.size) (hBb : B ≤ b) (rs : List RepP) (hrs : N.repls = rs.map RepP.R) (h2 : w.ownsRow B 49 10 vr rs.length (rs.flatMap repRow)) (h3 : ∀ p ∈ rs,ReplOwn w B p.R p.vl p.vh p.vw p.vg p.vn p.ps)
  (p:RepP) (hp:ReplOwn w B p.R p.vl p.vh p.vw p.vg p.vn p.ps) (hown:wB.ownsRow B 49 10 v' (rs.length+1) (rs.flatMap repRow ++ repRow p)) (hg:w.grownBy wB vr.ownBlock) (hat:v'.ownBlock=vr.ownBlock∨v'.ownBlock=some w.heap.size) :
  NetAt (wB.setCell ⟨b,0,none⟩ v') B b ⟨N.repls ++ [p.R],N.slots,N.flying,N.custs,N.told,N.codes⟩∧Goes w (wB.setCell ⟨b,0,none⟩ v') B b:=by
 obtain⟨hx',st,go⟩:=grown_goes (i:=0) hx rfl h2 hg hat hB hBb (by decide) (by decide) (by decide)
 refine⟨⟨v',vs,vf,vc,vt,vk,hx', ?_,h.s.stay st (by decide),h.f.stay st (by decide),h.c.stay st (by decide),h.t.stay st (by decide),h.k.stay st (by decide)⟩,go⟩
 have hxB:Box wB b 87 [vr,vs,vf,vc,vt,vk]:=hx.grown hg (own_type h2 hx (by decide))
 have keep : ∀ q:RepP,ReplOwn w B q.R q.vl q.vh q.vw q.vg q.vn q.ps→ReplOwn (wB.setCell ⟨b,0,none⟩ v') B q.R q.vl q.vh q.vw q.vg q.vn q.ps:=fun q hq=>hq.map fun e _ _ _ _ he r=>st _ _ _ _ _ _ (by rcases he with rfl | rfl | rfl | rfl <;> decide) r
 refine⟨rs ++ [p],by rw[List.map_append,← hrs]; rfl, ?_,fun q hq => ?_⟩
 ·rw[List.length_append,List.flatMap_append]
  have:=own_other (a:=⟨b,0,none⟩) hown (own_type hown hxB (by decide)) v'
  simpa using this
 ·rcases List.mem_append.1 hq with e | e
  ·exact keep q (h3 q e)
  ·have:q=p:=by simpa using e
   subst this
   exact keep q hp
theorem NetRows.addS {w wB : World} {B b : Nat} {N : NetM} {vr vs vf vc vt vk v' vl : Value} {s : List (List UInt8)} (h : NetRows w B N vr vs vf vc vt vk) (hx : Box w b 87 [vr,vs,vf,vc,vt,vk]) (hB : B ≤ w.heap.size) (hBb : B ≤ b) (ss : List (List (List UInt8) × Value)) (hss : N.slots = ss.map Prod.fst) (h2 : w.ownsRow B 42 1 vs ss.length (ss.map Prod.snd)) (h3 : ∀ p ∈ ss,w.ownsRow B 9 1 p.2 p.1.length (p.1.map enc))
  (hp:w.ownsRow B 9 1 vl s.length (s.map enc)) (hown:wB.ownsRow B 42 1 v' (ss.length+1) (ss.map Prod.snd ++ [vl])) (hg:w.grownBy wB vs.ownBlock) (hat:v'.ownBlock=vs.ownBlock∨v'.ownBlock=some w.heap.size) :
  NetAt (wB.setCell ⟨b,1,none⟩ v') B b ⟨N.repls,N.slots ++ [s],N.flying,N.custs,N.told,N.codes⟩∧Goes w (wB.setCell ⟨b,1,none⟩ v') B b:=by
 obtain⟨hx',st,go⟩:=grown_goes (i:=1) hx rfl h2 hg hat hB hBb (by decide) (by decide) (by decide)
 refine⟨⟨vr,v',vf,vc,vt,vk,hx',h.r.stay st (by decide), ?_,h.f.stay st (by decide),h.c.stay st (by decide),h.t.stay st (by decide),h.k.stay st (by decide)⟩,go⟩
 have hxB:Box wB b 87 [vr,vs,vf,vc,vt,vk]:=hx.grown hg (own_type h2 hx (by decide))
 refine⟨ss ++ [(s,vl)],by rw[List.map_append,← hss]; rfl, ?_,fun q hq => ?_⟩
 ·rw[List.length_append,List.map_append]
  have:=own_other (a:=⟨b,1,none⟩) hown (own_type hown hxB (by decide)) v'
  simpa using this
 ·rcases List.mem_append.1 hq with e | e
  ·exact st _ _ _ _ _ _ (by decide) (h3 q e)
  ·have:q=(s,vl):=by simpa using e
   subst this
   exact st _ _ _ _ _ _ (by decide) hp
theorem NetRows.addC {w wB : World} {B b : Nat} {N : NetM} {vr vs vf vc vt vk v' : Value} {c : CustM} (h : NetRows w B N vr vs vf vc vt vk) (hx : Box w b 87 [vr,vs,vf,vc,vt,vk]) (hB : B ≤ w.heap.size) (hBb : B ≤ b)
  (hown:wB.ownsRow B 105 8 v' (N.custs.length+1) (N.custs.flatMap custCells ++ custCells c)) (hg:w.grownBy wB vc.ownBlock) (hat:v'.ownBlock=vc.ownBlock∨v'.ownBlock=some w.heap.size) :
  NetAt (wB.setCell ⟨b,3,none⟩ v') B b ⟨N.repls,N.slots,N.flying,N.custs ++ [c],N.told,N.codes⟩∧Goes w (wB.setCell ⟨b,3,none⟩ v') B b:=by
 obtain⟨hx',st,go⟩:=grown_goes (i:=3) hx rfl h.c hg hat hB hBb (by decide) (by decide) (by decide)
 refine⟨⟨vr,vs,vf,v',vt,vk,hx',h.r.stay st (by decide),h.s.stay st (by decide),h.f.stay st (by decide), ?_,h.t.stay st (by decide),h.k.stay st (by decide)⟩,go⟩
 have hxB:Box wB b 87 [vr,vs,vf,vc,vt,vk]:=hx.grown hg (own_type h.c hx (by decide))
 show World.ownsRow _ _ _ _ _ (N.custs ++ [c]).length ((N.custs ++ [c]).flatMap custCells)
 rw[List.length_append,List.flatMap_append]
 have:=own_other (a:=⟨b,3,none⟩) hown (own_type hown hxB (by decide)) v'
 simpa using this

set_option maxRecDepth 4000 in
set_option maxHeartbeats 8000000 in
theorem newWorld_any (cl : Nat) (w : World) (h1 : 1 ≤ cl) (h4 : cl ≤ 4) :
  Calls Tryz.prog 23 #[.int .i64 cl] w fun e w' => e = .returned (.tuple #[.pointer (some ⟨w.heap.size,0,none⟩), .int .i64 0])∧NetAt w' w.heap.size w.heap.size (startN cl)∧Below w.heap.size w w' := by
 have HCL:Hid (1≤cl∧cl≤4):=⟨h1,h4⟩
 have b0:=Box.new w 87 [.slice none 0 0, .slice none 0 0, .slice none 0 0, .slice none 0 0, .slice none 0 0, .slice none 0 0]
 obtain⟨w0,hw0⟩ : ∃ w0,w0=w.alloc (.cells #[.slice none 0 0, .slice none 0 0, .slice none 0 0, .slice none 0 0, .slice none 0 0, .slice none 0 0] 87):=⟨_,rfl⟩
 have H0:Hid (NetAt w0 w.heap.size w.heap.size (preN 0 0)∧Below w.heap.size w w0):=by
  rw[hw0]
  refine⟨⟨_,_,_,_,_,_,b0,⟨⟨[],rfl,World.ownsRow_nil _ _ _ _,fun p hp=>by simp at hp⟩,⟨[],rfl,World.ownsRow_nil _ _ _ _,fun p hp=>by simp at hp⟩,msgsNil _ _,World.ownsRow_nil _ _ _ _,World.ownsRow_nil _ _ _ _,World.ownsRow_nil _ _ _ _⟩⟩,below_alloc _ _⟩
 obtain⟨B,hBe⟩ : ∃ B,w.heap.size=B:=⟨_,rfl⟩
 have HBE:Hid (w.heap.size=B):=hBe
 rw[hBe] at H0
 clear b0 h1 h4
 go_enter Tryz.func23,Tryz.ntmps23
 go_upto_region 2 with fail
 rw[← hw0]
 clear hw0 hBe
 go_wp2_with fail
 go_loopw [12] (fun i wr => ∃ k:Nat,k≤3∧i = .int .i64 k∧NetAt wr B B (preN k 0)∧Below B w wr) (fun i wr=>3 - (intOf i).toNat)
 case atStart=>exact⟨0,by omega,rfl,H0.out.1,H0.out.2⟩
 case round =>
  obtain⟨k,hk,rfl,hn,hb⟩:=hrel
  have HN:Hid (NetAt wr B B (preN k 0)):=hn
  have HB:Hid (Below B w wr):=hb
  clear hn hb
  have HBW:Hid (B≤wr.heap.size):=Nat.le_trans (Nat.le_of_eq HBE.out.symm) HB.out.size
  by_cases hlt:k < 3
  ·have k1:(k:Int) < 3:=by omega
   have HK:Hid (k < 3):=hlt
   go_wp2_with fail
   refine (stageNew_any wr).mono ?_
   rintro e w1 ⟨v1,rfl,ho1,hb1⟩
   obtain⟨a1,c1,rfl⟩:=own_form ho1
   have HS1:Hid (w1.ownsRow wr.heap.size 9 1 (.slice a1 newSlots.length c1) newSlots.length (newSlots.map enc)):=ho1
   have HB1:Hid (Below wr.heap.size wr w1):=hb1
   clear ho1 hb1
   go_wp2_with fail
   refine (begun_any k newSlots _ w1 (Strs.of_own HS1.out (by rw[start_slots.2.2.2]; decide) start_slots.2.2.1.2) start_slots.1 (by rw[start_slots.2.1]; exact kept_texts _ fresh_fault)).mono ?_
   rintro e w2 ⟨v2,rfl,hr2,hb2⟩
   rw[start_slots.2.1] at hr2
   rw[start_slots.2.1,newrE_ok k HK.out freshK fresh_fault]
   obtain⟨R,hR⟩ : ∃ R,newrR (k:Int) freshK=R:=⟨_,rfl⟩
   have HRE:Hid (repl0 (k:Int)=R):=hR
   rw[hR] at hr2
   obtain⟨al,cl2,ah,ch,aw,cw,ag,cg,an,cn,rfl⟩:=hr2.form
   have b3:=Box.new w2 49 [.int .i64 R.me, .int .i64 R.kept.view, .int .i64 R.kept.normal, .bool R.kept.calm, .slice al R.kept.log.length cl2, .int .i64 R.kept.commit, .slice ah R.hav.length ch, .slice aw R.wants.length cw, .slice ag R.gives.length cg, .slice an R.given.length cn]
   obtain⟨w3,hw3⟩ : ∃ w3,w3=w2.alloc (.cells #[.int .i64 R.me, .int .i64 R.kept.view, .int .i64 R.kept.normal, .bool R.kept.calm, .slice al R.kept.log.length cl2, .int .i64 R.kept.commit, .slice ah R.hav.length ch, .slice aw R.wants.length cw, .slice ag R.gives.length cg, .slice an R.given.length cn] 49):=⟨_,rfl⟩
   have hb3:Below w2.heap.size w2 w3:=by rw[hw3]; exact below_alloc _ _
   rw[← hw3] at b3
   have HB3:Hid (Below wr.heap.size wr w3):=Below.far (Below.far HB1.out hb2) hb3
   have HR3:Hid (ReplNew w3 B (.agg #[.int .i64 R.me, .int .i64 R.kept.view, .int .i64 R.kept.normal, .bool R.kept.calm, .slice al R.kept.log.length cl2, .int .i64 R.kept.commit, .slice ah R.hav.length ch, .slice aw R.wants.length cw, .slice ag R.gives.length cg, .slice an R.given.length cn]) R):=(hr2.below hb3).base (Nat.le_trans HBW.out HB1.out.size)
   have HS3:Hid (w3.ownsRow B 9 1 (.slice a1 newSlots.length c1) newSlots.length (newSlots.map enc)):=own_base (own_below (own_below HS1.out hb2 (own_lt HS1.out)) hb3 (own_lt (own_below HS1.out hb2 (own_lt HS1.out)))) HBW.out
   obtain⟨lb,hlb⟩ : ∃ lb,w2.heap.size=lb:=⟨_,rfl⟩
   have HLB:Hid (wr.heap.size≤lb):=by rw[← hlb]; exact Nat.le_trans HB1.out.size hb2.size
   rw[hlb] at b3
   have B3:Hid (Box w3 lb 49 [.int .i64 R.me, .int .i64 R.kept.view, .int .i64 R.kept.normal, .bool R.kept.calm, .slice al R.kept.log.length cl2, .int .i64 R.kept.commit, .slice ah R.hav.length ch, .slice aw R.wants.length cw, .slice ag R.gives.length cg, .slice an R.given.length cn]):=b3
   clear hr2 hb2 hb3 b3 hR HS1 HB1
   go_upto_region 9 with fail
   rw[← hw3]
   try rw[hlb]
   clear hw3 hlb
   obtain⟨vr,vs,vf,vc,vt,vk,hx3,hr3⟩:=HN.out.below HB3.out
   obtain⟨rs,hrs,hro,hrp⟩:=hr3.r
   obtain⟨ar,cr,rfl⟩:=own_formN hro
   have HX3:Hid (Box w3 B _ _):=hx3
   have HW3:Hid (NetRows w3 B _ _ _ _ _ _ _):=hr3
   have HRS:Hid ((preN k 0).repls=rs.map RepP.R∧rs.length=k):=⟨hrs,by have:=congrArg List.length hrs; simpa [preN] using this.symm⟩
   have HRO:Hid (w3.ownsRow B 49 10 (.slice ar rs.length cr) rs.length (rs.flatMap repRow)):=hro
   have HRP:Hid (∀ p ∈ rs,ReplOwn w3 B p.R p.vl p.vh p.vw p.vg p.vn p.ps):=hrp
   have HNL:Hid ((Value.slice ar rs.length cr).ownBlock≠some lb):=(net_off HN.out HLB.out HB3.out B3.out.lt).2.2 _ hx3 _ (by simp)
   clear hx3 hr3 hrs hro hrp
   refine wp_region_plan [0,0,0,0,0,0,0,1,1,2,2,2,2] (.free 0 (.line 1 (.done 2))) (by kernel_rfl) (by kernel_rfl) (fun h=>h) (fun V=>Box V B 87 [.slice ar rs.length cr,vs,vf,vc,vt,vk]∧Box V lb 49 [.int .i64 R.me, .int .i64 R.kept.view, .int .i64 R.kept.normal, .bool R.kept.calm, .slice al R.kept.log.length cl2, .int .i64 R.kept.commit, .slice ah R.hav.length ch, .slice aw R.wants.length cw, .slice ag R.gives.length cg, .slice an R.given.length cn]) ⟨HX3.out,B3.out⟩ (fun V n hV=>hV) fun n7 => ?_
   refine wpPlan_free (by kernel_rfl) ?_
   apply Exists.intro
   refine⟨?_, ?_⟩
   ·intro V hV
    have bx:=hV.1
    have by' := hV.2
    obtain⟨x0,x1,x2,x3,x4,x5⟩:=bx.c6
    obtain⟨y0,y1,y2,y3,y4,y5,y6,y7,y8,y9⟩:=by'.c10
    simp only[sel,↓reduceIte,Nat.reduceEqDiff]
    repeat (go_big_quiet_step (fail))
    refine wpQuiet_nil ?_
    rfl
   intro n8
   refine wpPlan_line ?_
   simp only[sel,↓reduceIte,Nat.reduceEqDiff]
   refine wpEarly_cons ?_
   obtain⟨w6,hw6⟩ : ∃ w6,w6=(w3.drewN n7).drewN n8:=⟨_,rfl⟩
   have HB6:Hid (Below w3.heap.size w3 w6):=by rw[hw6]; exact below_drewN _ (below_drewN _ (Below.refl _ _))
   rw[← hw6]
   clear hw6
   go_wp2_with fail
   have b7:=Box.new w6 49 [.int .i64 R.me, .int .i64 R.kept.view, .int .i64 R.kept.normal, .bool R.kept.calm, .slice al R.kept.log.length cl2, .int .i64 R.kept.commit, .slice ah R.hav.length ch, .slice aw R.wants.length cw, .slice ag R.gives.length cg, .slice an R.given.length cn]
   obtain⟨w7,hw7⟩ : ∃ w7,w7=w6.alloc (.cells #[.int .i64 R.me, .int .i64 R.kept.view, .int .i64 R.kept.normal, .bool R.kept.calm, .slice al R.kept.log.length cl2, .int .i64 R.kept.commit, .slice ah R.hav.length ch, .slice aw R.wants.length cw, .slice ag R.gives.length cg, .slice an R.given.length cn] 49):=⟨_,rfl⟩
   have hb7:Below w6.heap.size w6 w7:=by rw[hw7]; exact below_alloc _ _
   rw[← hw7] at b7 ⊢
   have HB7:Hid (Below w3.heap.size w3 w7):=Below.far HB6.out hb7
   have B7:Hid (Box w7 w6.heap.size 49 [.int .i64 R.me, .int .i64 R.kept.view, .int .i64 R.kept.normal, .bool R.kept.calm, .slice al R.kept.log.length cl2, .int .i64 R.kept.commit, .slice ah R.hav.length ch, .slice aw R.wants.length cw, .slice ag R.gives.length cg, .slice an R.given.length cn]):=b7
   have HX7:Hid (Box w7 B 87 [.slice ar rs.length cr,vs,vf,vc,vt,vk]):=HX3.out.below HB7.out HX3.out.lt
   have H07:Hid (Box w7 lb 49 [.int .i64 R.me, .int .i64 R.kept.view, .int .i64 R.kept.normal, .bool R.kept.calm, .slice al R.kept.log.length cl2, .int .i64 R.kept.commit, .slice ah R.hav.length ch, .slice aw R.wants.length cw, .slice ag R.gives.length cg, .slice an R.given.length cn]):=B3.out.below HB7.out B3.out.lt
   clear hw7 hb7 b7
   obtain⟨nb,hnb⟩ : ∃ nb,w6.heap.size=nb:=⟨_,rfl⟩
   rw[hnb] at B7 ⊢
   clear hnb
   refine wpEarly_next ⟨HX7.out,H07.out⟩ fun m7 => ?_
   refine wpEarly_cons ?_
   have HRO7:Hid ((w7.drewN m7).ownsRow B 49 10 (.slice ar rs.length cr) rs.length (rs.flatMap repRow)):=own_below HRO.out (below_drewN m7 HB7.out) (own_lt HRO.out)
   have HBH:Hid (B≤(w7.drewN m7).heap.size):=Nat.le_trans HBW.out (Nat.le_trans HB3.out.size HB7.out.size)
   go_wp2_with (at_builtin; refine wpList_append_row _ rfl _ _ 25 rfl B 49 Tryz.t49 _ 10 160 Tryz.underlying25 infoRepl zeroReplV sizeRepl bytesRepl rfl (by decide) _ rs.length (rs.flatMap repRow) rfl HRO7.out _ 1 [.int .i64 R.me, .int .i64 R.kept.view, .int .i64 R.kept.normal, .bool R.kept.calm, .slice al R.kept.log.length cl2, .int .i64 R.kept.commit, .slice ah R.hav.length ch, .slice aw R.wants.length cw, .slice ag R.gives.length cg, .slice an R.given.length cn] rfl (rowAt_box (w:=w7.drewN m7) B7.out 1 10 rfl) (by simp[Value.oneCell']) (by have:=HRS.out.2; unfold maxLen; omega) (by have:=HRS.out.2; omega) HBH.out ?_)
   intro v9 w8 hown hgr hat
   obtain⟨a9,c9,rfl⟩:=own_formN hown
   have HX8:Hid (Box w8 B 87 [.slice ar rs.length cr,vs,vf,vc,vt,vk]):=Box.grown (w:=w7.drewN m7) HX7.out hgr (own_type HRO7.out HX7.out (by decide))
   have H08:Hid (Box w8 lb 49 [.int .i64 R.me, .int .i64 R.kept.view, .int .i64 R.kept.normal, .bool R.kept.calm, .slice al R.kept.log.length cl2, .int .i64 R.kept.commit, .slice ah R.hav.length ch, .slice aw R.wants.length cw, .slice ag R.gives.length cg, .slice an R.given.length cn]):=Box.grown (w:=w7.drewN m7) H07.out hgr HNL.out
   have HOW:Hid (w8.ownsRow B 49 10 (.slice a9 (rs.length+1) c9) (rs.length+1) (rs.flatMap repRow ++ [.int .i64 R.me, .int .i64 R.kept.view, .int .i64 R.kept.normal, .bool R.kept.calm, .slice al R.kept.log.length cl2, .int .i64 R.kept.commit, .slice ah R.hav.length ch, .slice aw R.wants.length cw, .slice ag R.gives.length cg, .slice an R.given.length cn])):=hown
   have HGR:Hid ((w7.drewN m7).grownBy w8 (Value.slice ar rs.length cr).ownBlock):=hgr
   have HAT:Hid ((Value.slice a9 (rs.length+1) c9).ownBlock=(Value.slice ar rs.length cr).ownBlock∨(Value.slice a9 (rs.length+1) c9).ownBlock=some (w7.drewN m7).heap.size):=hat
   clear hown hgr hat
   go_wp2_with fail
   refine wpEarly_next ⟨HX8.out,H08.out⟩ fun m9 => ?_
   refine wpEarly_nil ?_
   refine wpPlan_done ?_
   simp only[sel,↓reduceIte,Nat.reduceEqDiff]
   have bx:=HX8.out
   have x0:=bx.cell 0 _ rfl
   have f0:=bx.frozen 0
   clear bx
   have HE9:Hid (NetAt ((w8.drewN m9).setCell ⟨B,0,none⟩ (.slice a9 (rs.length+1) c9)) B B ⟨(preN k 0).repls ++ [R],(preN k 0).slots,[],[],[],[]⟩∧Below B w ((w8.drewN m9).setCell ⟨B,0,none⟩ (.slice a9 (rs.length+1) c9))∧((w8.drewN m9).setCell ⟨B,0,none⟩ (.slice a9 (rs.length+1) c9)).ownsRow B 9 1 (.slice a1 newSlots.length c1) newSlots.length (newSlots.map enc)):=by
    obtain⟨xl,xh,xw,xg,xn,xps,hxv,hxo⟩:=HR3.out.below (below_drewN m7 HB7.out)
    simp only[replCells,Value.agg.injEq,Array.mk.injEq,List.cons.injEq,and_true,true_and] at hxv
    obtain⟨rfl,rfl,rfl,rfl,rfl⟩:=hxv
    have q:=(HW3.out.below (below_drewN m7 HB7.out)).addR (wB:=w8.drewN m9) HX7.out HBH.out (Nat.le_refl _) rs HRS.out.1 HRO7.out (fun p hp=>(HRP.out p hp).below (below_drewN m7 HB7.out)) ⟨R,_,_,_,_,_,xps⟩ hxo (own_drewN m9 HOW.out) ⟨HGR.out.os,HGR.out.tape,HGR.out.output,HGR.out.size,HGR.out.block⟩ HAT.out
    exact⟨q.1,((HB.out.trans (HB3.out.mono HBW.out)).trans ((below_drewN m7 HB7.out).mono (Nat.le_trans HBW.out HB3.out.size))).trans q.2.below,q.2.keeps _ _ _ _ _ _ (Or.inl rfl) (own_below HS3.out (below_drewN m7 HB7.out) (own_lt HS3.out))⟩
   obtain⟨wA,hwA⟩ : ∃ wA,wA=(w8.drewN m9).setCell ⟨B,0,none⟩ (.slice a9 (rs.length+1) c9):=⟨_,rfl⟩
   rw[← hwA] at HE9
   clear HX8 H08 HOW HGR HAT HX7 H07 B7 HRO7
   go_upto_region 10 with fail
   rw[← hwA]
   clear hwA x0 f0
   obtain⟨vrA,vsA,vfA,vcA,vtA,vkA,hxA,hrA⟩:=HE9.out.1
   obtain⟨ss,hss,hso,hsp⟩:=hrA.s
   obtain⟨as2,cs2,rfl⟩:=own_form hso
   have hsl:ss.length=k:=by have:=congrArg List.length hss; simpa [preN] using this.symm
   have HXA:Hid (Box wA B _ _):=hxA
   have HRA:Hid (NetRows wA B _ _ _ _ _ _ _):=hrA
   have HSS:Hid ((⟨(preN k 0).repls ++ [R],(preN k 0).slots,[],[],[],[]⟩:NetM).slots=ss.map Prod.fst∧ss.length=k):=⟨hss,hsl⟩
   have HSO:Hid (wA.ownsRow B 42 1 (.slice as2 ss.length cs2) ss.length (ss.map Prod.snd)):=hso
   have HSP:Hid (∀ p ∈ ss,wA.ownsRow B 9 1 p.2 p.1.length (p.1.map enc)):=hsp
   have HBA:Hid (B≤wA.heap.size):=Nat.le_trans (Nat.le_of_eq HBE.out.symm) HE9.out.2.1.size
   have x1:=hxA.cell 1 _ rfl
   clear hxA hrA hss hso hsp hsl
   go_wp2_with (at_builtin; refine wpList_append_row _ rfl _ _ 26 rfl B 42 Tryz.t42 _ 1 24 Tryz.underlying26 infoSlots zeroSlotsV sizeSlots bytesSlots rfl (by decide) _ ss.length (ss.map Prod.snd) rfl (own_below HSO.out (below_alloc wA _) (own_lt HSO.out)) _ 1 [.slice a1 newSlots.length c1] rfl (rowAt_box (Box.new wA _ _) 1 1 rfl) (by simp[Value.oneCell']) (by have:=HSS.out.2; have:=HK.out; unfold maxLen; omega) (by have:=HSS.out.2; have:=HK.out; omega) (by have:=HBA.out; simp; omega) ?_)
   intro vB wB hown hgr hat
   obtain⟨aB,cB,rfl⟩:=own_form hown
   have hbX:Below wA.heap.size wA (wA.alloc (.cells #[.slice a1 newSlots.length c1] 42)):=below_alloc _ _
   have HXB:Hid (Box (wA.alloc (.cells #[.slice a1 newSlots.length c1] 42)) B 87 [vrA, .slice as2 ss.length cs2,vfA,vcA,vtA,vkA]):=HXA.out.below hbX HXA.out.lt
   have hxB:Box wB B 87 [vrA, .slice as2 ss.length cs2,vfA,vcA,vtA,vkA]:=Box.grown HXB.out hgr (own_type (own_below HSO.out hbX (own_lt HSO.out)) HXB.out (by decide))
   have HE:Hid (NetAt (wB.setCell ⟨B,1,none⟩ (.slice aB (ss.length+1) cB)) B B (preN (k+1) 0)∧Below B w (wB.setCell ⟨B,1,none⟩ (.slice aB (ss.length+1) cB))):=by
    have q:=(HRA.out.below hbX).addS (wB:=wB) (s:=newSlots) HXB.out (by have:=HBA.out; simp; omega) (Nat.le_refl _) ss HSS.out.1 (own_below HSO.out hbX (own_lt HSO.out)) (fun p hp=>own_below (HSP.out p hp) hbX (own_lt (HSP.out p hp))) (own_below HE9.out.2.2 hbX (own_lt HE9.out.2.2)) hown hgr (by simpa using hat)
    have e:(⟨(preN k 0).repls ++ [R],(preN k 0).slots ++ [newSlots],[],[],[],[]⟩:NetM)=preN (k+1) 0:=by
     unfold preN
     simp only[NetM.mk.injEq,List.range_succ,List.map_append,List.map_cons,List.map_nil,HRE.out,List.replicate_succ']
     exact⟨trivial,trivial,trivial,rfl,trivial,trivial⟩
    have q1:NetAt (wB.setCell ⟨B,1,none⟩ (.slice aB (ss.length+1) cB)) B B ⟨(preN k 0).repls ++ [R],(preN k 0).slots ++ [newSlots],[],[],[],[]⟩:=q.1
    rw[e] at q1
    exact⟨q1,(HE9.out.2.1.trans (hbX.mono HBA.out)).trans q.2.below⟩
   have x1' := hxB.cell 1 _ rfl
   have f1:=hxB.frozen 1
   clear hxB hown hgr hat hbX HXB HSO HSP HRA HXA x1
   go_wp2_with fail
   go_roundw
   case rel=>exact⟨k+1,by have:=HK.out; omega,by go_num,HE.out⟩
   case measure=>simp[intOf]; have:=HK.out; omega
  ·obtain rfl:k=3:=by omega
   clear hlt hk
   rw[show ((3:Nat):Int)=3 from rfl]
   go_wp2_with fail
   go_loopw [9] (fun i wr => ∃ c:Nat,c≤cl∧i = .int .i64 ((c:Int)+1)∧NetAt wr B B (preN 3 c)∧Below B w wr) (fun i wr=>cl+1 - (intOf i).toNat)
   case atStart=>exact⟨0,by omega,rfl,HN.out,HB.out⟩
   case round =>
    obtain⟨c,hc,rfl,hn,hb⟩:=hrel
    have HN2:Hid (NetAt wr B B (preN 3 c)):=hn
    have HB2:Hid (Below B w wr):=hb
    have HCC:Hid (c≤cl):=hc
    clear hn hb hc
    by_cases hlt:c < cl
    ·have k1:(c:Int)+1≤(cl:Int):=by omega
     have HCL2:Hid (c < cl):=hlt
     clear hlt
     obtain⟨vr,vs,vf,vc,vt,vk,hx3,hr3⟩:=HN2.out
     have hcl:(preN 3 c).custs.length=c:=by simp[preN,custs0]
     obtain⟨ac,kc,hvc⟩:=own_formN hr3.c
     subst hvc
     have HX3:Hid (Box wr B _ _):=hx3
     have HR3:Hid (NetRows wr B _ _ _ _ _ _ _):=hr3
     have HLN:Hid ((preN 3 c).custs.length=c):=hcl
     have HBA:Hid (B≤wr.heap.size):=Nat.le_trans (Nat.le_of_eq HBE.out.symm) HB2.out.size
     have x3:=hx3.cell 3 _ rfl
     clear hx3 hr3 hcl
     generalize hcu:(preN 3 c).custs=cu at *
     go_wp2_with (at_builtin; refine wpList_append_row _ rfl _ _ 28 rfl B 105 Tryz.t105 _ 8 72 Tryz.underlying28 infoCust zeroCustV sizeCust bytesCust rfl (by decide) _ cu.length (cu.flatMap custCells) rfl (own_below (by have:=HR3.out.c; rw[hcu] at this; exact this) (below_alloc wr _) (own_lt (by have:=HR3.out.c; rw[hcu] at this; exact this))) _ 1 [.int .i64 ((c:Int)+1), .int .i64 1, .int .i64 0, .int .i64 0, .int .i64 0, .int .i64 0, .int .i64 0, .string ⟨#[]⟩] rfl (rowAt_box (Box.new wr _ _) 1 8 rfl) (by simp[Value.oneCell']) (by have:=HLN.out; have:=HCL.out; have:=HCL2.out; unfold maxLen; omega) (by have:=HLN.out; have:=HCL.out; have:=HCL2.out; omega) (by have:=HBA.out; simp; omega) ?_)
     intro vB wB hown hgr hat
     obtain⟨aB,cB,rfl⟩:=own_formN hown
     have hbX:Below wr.heap.size wr (wr.alloc (.cells #[.int .i64 ((c:Int)+1), .int .i64 1, .int .i64 0, .int .i64 0, .int .i64 0, .int .i64 0, .int .i64 0, .string ⟨#[]⟩] 105)):=below_alloc _ _
     have HXB:Hid (Box (wr.alloc (.cells #[.int .i64 ((c:Int)+1), .int .i64 1, .int .i64 0, .int .i64 0, .int .i64 0, .int .i64 0, .int .i64 0, .string ⟨#[]⟩] 105)) B 87 [vr,vs,vf, .slice ac cu.length kc,vt,vk]):=HX3.out.below hbX HX3.out.lt
     have hrc:wr.ownsRow B 105 8 (.slice ac cu.length kc) cu.length (cu.flatMap custCells):=by have:=HR3.out.c; rw[hcu] at this; exact this
     have hxB:Box wB B 87 [vr,vs,vf, .slice ac cu.length kc,vt,vk]:=Box.grown HXB.out hgr (own_type (own_below hrc hbX (own_lt hrc)) HXB.out (by decide))
     have HE:Hid (NetAt (wB.setCell ⟨B,3,none⟩ (.slice aB (cu.length+1) cB)) B B (preN 3 (c+1))∧Below B w (wB.setCell ⟨B,3,none⟩ (.slice aB (cu.length+1) cB))):=by
      have q:=(HR3.out.below hbX).addC (wB:=wB) (c:=⟨(c:Int)+1,1,zeroReq⟩) HXB.out (by have:=HBA.out; simp; omega) (Nat.le_refl _) (by rw[hcu]; exact hown) hgr (by simpa using hat)
      have e:(⟨(preN 3 c).repls,(preN 3 c).slots,(preN 3 c).flying,(preN 3 c).custs ++ [⟨(c:Int)+1,1,zeroReq⟩],(preN 3 c).told,(preN 3 c).codes⟩:NetM)=preN 3 (c+1):=by
       unfold preN custs0
       simp only[NetM.mk.injEq,List.range_succ,List.map_append,List.map_cons,List.map_nil]
      have q1:=q.1
      rw[e] at q1
      exact⟨q1,(HB2.out.trans (hbX.mono HBA.out)).trans q.2.below⟩
     have x3' := hxB.cell 3 _ rfl
     have f3:=hxB.frozen 3
     clear hxB hown hgr hat hbX HXB HR3 HX3 hrc hcu x3
     have k8:(c:Int)≤4:=by have:=HCL2.out; have:=HCL.out; omega
     have k9:(0:Int)≤(c:Int):=by omega
     go_wp2_with fail
     go_roundw
     case rel=>exact⟨c+1,by have:=HCL2.out; omega,by go_num,HE.out⟩
     case measure=>simp[intOf]; have:=HCL2.out; have:=HCL.out; omega
    ·have hce:c=cl:=by have:=HCC.out; omega
     have k1 : ¬ (c:Int)+1≤(cl:Int):=by omega
     have HF:Hid (NetAt wr B B (startN cl)):=by rw[← hce,← pre_start]; exact HN2.out
     clear hlt hce
     go_wp2_with fail
     go_ret2
     rw[HBE.out]
     exact⟨rfl,HF.out,HB2.out⟩

end Go.Proofs.YtmdgkjbiicaljahGreatDoor

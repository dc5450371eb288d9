/- The program's own: what becomes of a replica, and what it sends. -/
import Derived.Test.YtmdgkjbiicaljahGreatDoorJointNetPut
set_option linter.unusedVariables false
set_option linter.unusedSimpArgs false
namespace Go.Proofs.YtmdgkjbiicaljahGreatDoor
open Go.RowKit

theorem flat_take {α : Type} (f : α → List Value) (s : Nat) (hf : ∀ x,(f x).length = s) : ∀ (l : List α) (k : Nat),(l.take k).flatMap f = (l.flatMap f).take (k * s)
 | l,0=>by simp
 | [],k+1=>by simp
 | x :: l,k+1=>by
  rw[List.take_succ_cons,List.flatMap_cons,List.flatMap_cons,flat_take f s hf l k,Nat.succ_mul,Nat.add_comm,← hf x,List.take_append,List.take_of_length_le (Nat.le_add_right _ _),Nat.add_sub_cancel_left]
/-- The first of a row's elements are a row. -/
theorem rowAt_take {w : World} {B size n : Nat} {e : TypeId} {a : Option Addr} {cap : Nat} {xs : List Value} (h : w.ownsRow B e size (.slice a n cap) n xs) (hs : 0 < size) (k : Nat) (hk : k ≤ n) (cap' : Nat) : RowAt w (.slice a k cap') k size (xs.take (k * size)) := by
 have hlen:xs.length=n * size:=h.1
 refine⟨a,cap',rfl,by rw[List.length_take,hlen]; exact Nat.min_eq_left (Nat.mul_le_mul_right _ hk),fun j u hj => ?_⟩
 have hj1:j < k * size:=by
  have:=(List.getElem?_eq_some_iff.1 hj).1
  rw[List.length_take] at this
  omega
 have hj2:j < n * size:=Nat.lt_of_lt_of_le hj1 (Nat.mul_le_mul_right _ hk)
 obtain⟨g,cap2,hv,_,_,hc,_⟩:=own_cellN h hs j hj2
 simp only[Value.slice.injEq] at hv
 obtain⟨rfl,_,_⟩:=hv
 refine⟨_,rfl, ?_⟩
 rw[Go.WideShapes.add_plain,Nat.zero_add,hc]
 rw[List.getElem?_take_of_lt hj1] at hj
 exact hj
theorem ReplNew.keeps {w w' : World} {B : Nat} {v : Value} {R : ReplM} (h : ReplNew w B v R) (hk : Keeps w w') : ReplNew w' B v R := by
 obtain⟨vl,vh,vw,vg,vn,ps,hv,h⟩:=h
 exact⟨vl,vh,vw,vg,vn,ps,hv,h.map fun e _ _ _ _ he r=>hk _ _ _ _ _ _ he r⟩
/-- A block that isn't the world's own. -/
theorem Goes.box {w w' : World} {B b k : Nat} {t : TypeId} {cs : List Value} (h : Goes w w' B b) (hx : Box w k t cs) (hk : Off 87 w b k) : Box w' k t cs := by
 have:=(h.leaves k hk).2
 unfold Box at hx ⊢
 rw[this]
 exact hx
theorem net_off {w0 w : World} {B b k : Nat} {N : NetM} (h : NetAt w0 B b N) (hk : w0.heap.size ≤ k) (hb : Below w0.heap.size w0 w) (hs : k < w.heap.size) : Off 87 w b k := by
 obtain⟨vr,vs,vf,vc,vt,vk,hx,hr⟩:=h
 have lt:=hx.lt
 refine⟨by omega,hs,fun cs hcs c hm e => ?_⟩
 rw[hcs.uniq (hx.below hb hx.lt)] at hm
 obtain⟨rs,_,r1,_⟩:=hr.r
 obtain⟨ss,_,s1,_⟩:=hr.s
 obtain⟨fs,_,f1⟩:=hr.f
 simp only[List.mem_cons,List.not_mem_nil,or_false] at hm
 rcases hm with rfl | rfl | rfl | rfl | rfl | rfl
 ·have:=own_lt r1 k e; omega
 ·have:=own_lt s1 k e; omega
 ·have:=own_lt f1.1 k e; omega
 ·have:=own_lt hr.c k e; omega
 ·have:=own_lt hr.t k e; omega
 ·have:=own_lt hr.k k e; omega

/-- A local struct is stored whole. -/
theorem Goes.loc {w w4 : World} {B b h : Nat} {N : NetM} {t : TypeId} {cs : List Value} (hg : Goes w w4 B b) (hn : NetAt w4 B b N) (hx : Box w4 h t cs) (hh : w.heap.size ≤ h) (hB : B ≤ w.heap.size) (ho : Off 87 w4 b h) (ht4 : 9 ≠ t ∧ 3 ≠ t ∧ 4 ≠ t ∧ 44 ≠ t) (i : Nat) (xs : List Value) :
  NetAt (setAll w4 h i xs) B b N∧Goes w (setAll w4 h i xs) B b∧Off 87 (setAll w4 h i xs) b h:=by
 obtain⟨vr,vs,vf,vc,vt,vk,hb,hr⟩:=hn
 obtain⟨a1,a2,a3,a4⟩:=ht4
 obtain⟨o1,o2,o3⟩:=ho
 have o3:=o3 _ hb
 have hbs:Box (setAll w4 h i xs) b 87 [vr,vs,vf,vc,vt,vk]:=hb.setAll_other (fun e=>o1 e.symm) xs i
 have inner : ∀ (base:Nat) (e:TypeId) (s:Nat) (x:Value) (m:Nat) (ys:List Value),(e=9∨e=3∨e=4∨e=44)→w4.ownsRow base e s x m ys→(setAll w4 h i xs).ownsRow base e s x m ys:=fun base e s x m ys he r=>setAll_own xs w4 i r (own_type r hx (by rcases he with rfl | rfl | rfl | rfl <;> assumption))
 have outer : ∀ (base:Nat) (e:TypeId) (s:Nat) (x:Value) (m:Nat) (ys:List Value),x ∈ [vr,vs,vf,vc,vt,vk]→w4.ownsRow base e s x m ys→(setAll w4 h i xs).ownsRow base e s x m ys:=fun base e s x m ys hm r=>setAll_own xs w4 i r (o3 x hm)
 refine⟨⟨vr,vs,vf,vc,vt,vk,hbs, ?_, ?_, ?_,outer _ _ _ _ _ _ (by simp) hr.c,outer _ _ _ _ _ _ (by simp) hr.t,outer _ _ _ _ _ _ (by simp) hr.k⟩,⟨?_,fun k hk => ?_,hg.keeps.trans inner,(setAll_cell_other _ _ _ (fun e=>o1 e.symm)).trans hg.code⟩,⟨o1,by rw[setAll_size]; exact o2,fun cs2 h2 c hc => ?_⟩⟩
 ·obtain⟨rs,h1,h2,h3⟩:=hr.r
  exact⟨rs,h1,outer _ _ _ _ _ _ (by simp) h2,fun p hp=>(h3 p hp).map fun e _ _ _ _ he r=>inner _ _ _ _ _ _ he r⟩
 ·obtain⟨ss,h1,h2,h3⟩:=hr.s
  exact⟨ss,h1,outer _ _ _ _ _ _ (by simp) h2,fun p hp=>inner _ _ _ _ _ _ (Or.inl rfl) (h3 p hp)⟩
 ·obtain⟨ps,h1,h2⟩:=hr.f
  exact⟨ps,h1,outer _ _ _ _ _ _ (by simp) h2.1,fun p hp=>inner _ _ _ _ _ _ (Or.inl rfl) (h2.2 p hp)⟩
 ·have:=hg.below
  have q:=setAll_beside_up (b:=b) (show B≤h by omega) xs w4 w4 i (Beside.refl B b w4)
  exact⟨q.os.trans this.os,q.tape.trans this.tape,q.output.trans this.output,Nat.le_trans this.size q.size,fun k hk=>by rw[setAll_heap_other (by omega)]; exact this.block k hk⟩
 ·obtain⟨q1,q2⟩:=hg.leaves k hk
  have hkh:k≠h:=by have:=hk.2.1; omega
  refine⟨⟨q1.1,by rw[setAll_size]; exact q1.2.1,fun cs2 h2 c hc => ?_⟩,by rw[setAll_heap_other hkh,q2]⟩
  rw[h2.uniq hbs] at hc
  exact q1.2.2 _ hb c hc
 ·rw[h2.uniq hbs] at hc
  exact o3 c hc
/-- A row in a block that isn't the world's own. -/
theorem Goes.row {w w' : World} {B b base size n : Nat} {e : TypeId} {v : Value} {xs : List Value} (h : Goes w w' B b) (ho : w.ownsRow base e size v n xs) (hk : ∀ k,v.ownBlock = some k → Off 87 w b k) : w'.ownsRow base e size v n xs := by
 refine⟨ho.1, ?_⟩
 rcases ho.2 with h2 | ⟨g,cap,cur,rfl,h3,hg,r⟩
 ·exact Or.inl h2
 ·exact Or.inr ⟨g,cap,cur,rfl,h3,by rw[(h.leaves g (hk g rfl)).2]; exact hg,r⟩
theorem own_cap {w : World} {base size n cap : Nat} {e : TypeId} {a : Option Addr} {xs : List Value} (ho : w.ownsRow base e size (.slice a n cap) n xs) : n ≤ cap := by
 rcases ho.2 with ⟨h2,_⟩ | ⟨g,cap',cur,e,h3,hg,r⟩
 ·simp only[Value.slice.injEq] at h2
  omega
 ·simp only[Value.slice.injEq] at e
  obtain⟨_,_,rfl⟩:=e
  exact r.1
theorem msgs_one {w : World} {B : Nat} (ps : List (MsgM × Value)) (h : ∀ p ∈ ps,w.ownsRow B 9 1 p.2 p.1.log.length (p.1.log.map enc)) : ∀ u ∈ ps.flatMap msgRow,u.oneCell' = true := by
 intro u hu
 obtain⟨p,hp,hu⟩:=List.mem_flatMap.1 hu
 obtain⟨a,c,e⟩:=own_form (h p hp)
 simp only[msgRow,msgCells,e,List.mem_cons,List.not_mem_nil,or_false] at hu
 rcases hu with rfl | rfl | rfl | rfl | rfl | rfl | rfl | rfl <;> rfl
theorem wrap64_as (n : Int) (h : -9223372036854775808 ≤ n ∧ n ≤ 9223372036854775807) : wrap64 n = n := by unfold wrap64; omega
theorem least_cut (L K : Nat) : min (K : Int) (L : Int) = ((min K L : Nat) : Int) := by omega

set_option maxRecDepth 4000 in
set_option maxHeartbeats 8000000 in
theorem settle_any (B b i : Nat) (N : NetM) (R : ReplM) (L : List MsgM) (e0 : Int) (v vs : Value) (w : World) (h : NetAt w B b N) (hr : ReplNew w B v R) (hms : MsgsNew w B vs L)
  (hsep : ∀ k,vs.ownBlock=some k→Off 87 w b k) (hB:B≤w.heap.size) (hBb:B≤b) (hL:L.length≤1000) (hfl:N.flying.length≤80) (hsl:N.slots.length=3) (hrl:N.repls.length=3)
  (hok:e0=0→ReplFits R∧i < 3∧R.me=i∧TextsIn (N.slot i)∧storeE (N.slot i) R.kept (-1)=0∧ReplFits (N.repl i)) :
  Calls Tryz.prog 61 #[.pointer (some ⟨b,0,none⟩),v,vs, .int .i64 e0] w fun e w' => e = .returned (.int .i64 (settleP N i R L e0).1)∧NetAt w' B b (settleP N i R L e0).2∧Goes w w' B b:=by
 have HW:Hid (ReplNew w B v R):=hr
 obtain⟨al,cl,ah,ch,aw,cw,ag,cg,an,cn,rfl⟩:=hr.form
 have bm:=Box.new w 49 [.int .i64 R.me, .int .i64 R.kept.view, .int .i64 R.kept.normal, .bool R.kept.calm, .slice al R.kept.log.length cl, .int .i64 R.kept.commit, .slice ah R.hav.length ch, .slice aw R.wants.length cw, .slice ag R.gives.length cg, .slice an R.given.length cn]
 obtain⟨w0,hw0⟩ : ∃ w0,w0=w.alloc (.cells #[.int .i64 R.me, .int .i64 R.kept.view, .int .i64 R.kept.normal, .bool R.kept.calm, .slice al R.kept.log.length cl, .int .i64 R.kept.commit, .slice ah R.hav.length ch, .slice aw R.wants.length cw, .slice ag R.gives.length cg, .slice an R.given.length cn] 49):=⟨_,rfl⟩
 have hb0:Below w.heap.size w w0:=by rw[hw0]; exact below_alloc _ _
 have hs0:w0.heap.size=w.heap.size+1:=by rw[hw0]; simp
 rw[← hw0] at bm
 have HN:Hid (NetAt w B b N):=h
 have HB0:Hid (Below w.heap.size w w0):=hb0
 have HS0:Hid (w0.heap.size=w.heap.size+1):=hs0
 have HBM:Hid (Box w0 w.heap.size _ _):=bm
 have HMS:Hid (MsgsNew w B vs L):=hms
 have HSEP:Hid (∀ k,vs.ownBlock=some k→Off 87 w b k):=hsep
 have HLN:Hid (B≤w.heap.size∧B≤b∧L.length≤1000∧N.flying.length≤80):=⟨hB,hBb,hL,hfl⟩
 have HOK:Hid (e0=0→ReplFits R∧i < 3∧R.me=i∧TextsIn (N.slot i)∧storeE (N.slot i) R.kept (-1)=0∧ReplFits (N.repl i)):=hok
 have HG0:Hid (Goes w w0 B b):=Goes.net h hB hb0
 have HRL:Hid (N.repls.length=3):=hrl
 have HSL:Hid (N.slots.length=3):=hsl
 clear h hr hms hsep hb0 hs0 bm hok hL hfl hsl hrl
 go_enter Tryz.func61,Tryz.ntmps61
 go_upto_region 1 with fail
 rw[← hw0]
 clear hw0
 by_cases h0:e0=0
 ·subst h0
  obtain⟨h1,hi,hm,h3,h4,h5⟩:=HOK.out rfl
  have HF:Hid (ReplFits R):=h1
  have HT:Hid (TextsIn (N.slot i)):=h3
  have HE:Hid (storeE (N.slot i) R.kept (-1)=0):=h4
  have HFN:Hid (ReplFits (N.repl i)):=h5
  have HM:Hid (R.me=i):=hm
  have HST:Hid (settleP N i R L 0=(0,sentN (replN (storedN N i R) i R) L)):=by unfold settleP; rw[if_pos rfl]; rfl
  have HB1:Hid (Box w0 w.heap.size 49 [.int .i64 i, .int .i64 R.kept.view, .int .i64 R.kept.normal, .bool R.kept.calm, .slice al R.kept.log.length cl, .int .i64 R.kept.commit, .slice ah R.hav.length ch, .slice aw R.wants.length cw, .slice ag R.gives.length cg, .slice an R.given.length cn]):=by rw[← hm]; exact HBM.out
  have HW1:Hid (ReplNew w B (.agg #[.int .i64 i, .int .i64 R.kept.view, .int .i64 R.kept.normal, .bool R.kept.calm, .slice al R.kept.log.length cl, .int .i64 R.kept.commit, .slice ah R.hav.length ch, .slice aw R.wants.length cw, .slice ag R.gives.length cg, .slice an R.given.length cn]) R):=by rw[← hm]; exact HW.out
  clear h1 h3 h4 h5 hm HOK HBM HW
  have HN0:Hid (NetAt w0 B b N):=HN.out.below HB0.out
  obtain⟨vr,vsl,vf,vc,vt,vk,hx,hrows⟩:=HN0.out
  have hi3:i < N.repls.length:=by have:=HRL.out; omega
  obtain⟨g,cap,vl,vh,vw,vg,vn,ps,rfl,hg,hro,hcs⟩:=hrows.r.read i hi3 (N.repl i) rfl
  obtain⟨al2,cl2,ah2,ch2,aw2,cw2,ag2,cg2,an2,cn2,rfl,rfl,rfl,rfl,rfl⟩:=hro.forms
  have HKB:Hid (∀ W,Below w0.heap.size w0 W→KeptAt W (.agg #[.int .i64 (N.repl i).kept.view, .int .i64 (N.repl i).kept.normal, .bool (N.repl i).kept.calm, .slice al2 (N.repl i).kept.log.length cl2, .int .i64 (N.repl i).kept.commit]) (N.repl i).kept):=fun W hW=>⟨_,rfl,(Strs.of_own hro.2.1 (by have:=HFN.out.log.1; omega) HFN.out.log.2).below hW⟩
  have HKA:Hid (∀ W,Below w0.heap.size w0 W→KeptAt W (.agg #[.int .i64 R.kept.view, .int .i64 R.kept.normal, .bool R.kept.calm, .slice al R.kept.log.length cl, .int .i64 R.kept.commit]) R.kept):=fun W hW=>by
   obtain⟨vl',vh,vw,vg,vn,e,h1,_⟩:=((HW1.out.at HF.out).below HB0.out).below hW
   simp only[replCells,Value.agg.injEq,Array.mk.injEq,List.cons.injEq,and_true,true_and] at e
   obtain⟨_,rfl,_⟩:=e
   exact⟨_,rfl,h1⟩
  have HX:Hid (Box w0 b _ _):=hx
  have HCS:Hid (∀ j,j < 10→w0.cell? ⟨g,i * 10+j,none⟩=_∧_):=hcs
  clear hx hrows hro hcs hg
  have k0:(0:Int)≤(i:Int):=by omega
  have k1:(i:Int) < (N.repls.length:Int):=by omega
  go_upto_region 3 with fail
  refine wp_region_plan [0,0,0,0,0,0,0,0,0,0,0,0,1,2] (.free 0 (.line 1 (.done 2))) (by kernel_rfl) (by kernel_rfl) (fun h=>h) (Below w0.heap.size w0) (Below.refl _ _) (fun V n hV=>below_drewN n hV) fun n0 => ?_
  refine wpPlan_free (by kernel_rfl) ?_
  apply Exists.intro
  refine⟨?_, ?_⟩
  ·intro V hV
   have bx:=HX.out.below hV HX.out.lt
   have by' := HB1.out.below hV HB1.out.lt
   obtain⟨x0,x1,x2,x3,x4,x5⟩:=bx.c6
   obtain⟨y0,y1,y2,y3,y4,y5,y6,y7,y8,y9⟩:=by'.c10
   have tt : ∀ j,0 < j→j < 6→V.cell? ⟨g,i * 10+j,none⟩=(replCells (N.repl i) (.slice al2 (N.repl i).kept.log.length cl2) (.slice ah2 (N.repl i).hav.length ch2) (.slice aw2 (N.repl i).wants.length cw2) (.slice ag2 (N.repl i).gives.length cg2) (.slice an2 (N.repl i).given.length cn2))[j]? := fun j hj0 hj=>by
    obtain⟨q1,q2⟩:=HCS.out j (by omega)
    have hl:g < w0.heap.size:=by
     have:j < (replCells (N.repl i) (.slice al2 (N.repl i).kept.log.length cl2) (.slice ah2 (N.repl i).hav.length ch2) (.slice aw2 (N.repl i).wants.length cw2) (.slice ag2 (N.repl i).gives.length cg2) (.slice an2 (N.repl i).given.length cn2)).length:=by show j < 10; omega
     rw[List.getElem?_eq_getElem this] at q1
     exact lt_of_cell q1
    rw[hV.cell (p:=⟨g,i * 10+j,none⟩) hl]
    exact q1
   have t1:=tt 1 (by omega) (by omega)
   have t2:=tt 2 (by omega) (by omega)
   have t3:=tt 3 (by omega) (by omega)
   have t4:=tt 4 (by omega) (by omega)
   have t5:=tt 5 (by omega) (by omega)
   simp only[replCells,List.getElem?_cons_zero,List.getElem?_cons_succ] at t1 t2 t3 t4 t5
   clear tt
   simp only[sel,↓reduceIte,Nat.reduceEqDiff]
   repeat (go_big_quiet_step (fail))
   refine wpQuiet_nil ?_
   rfl
  intro n1
  refine wpPlan_line ?_
  simp only[sel,↓reduceIte,Nat.reduceEqDiff]
  refine wpEarly_cons ?_
  go_wp2_with fail
  refine (sameKept_any R.kept (N.repl i).kept _ _ _ (HKA.out _ (below_drewN (n0+n1) (Below.refl _ _))) (HKB.out _ (below_drewN (n0+n1) (Below.refl _ _)))).mono ?_
  rintro e w2 ⟨rfl,hb2⟩
  have hbw:Below w0.heap.size w0 w2:=⟨hb2.os,hb2.tape,hb2.output,hb2.size,hb2.block⟩
  have HB2:Hid (Below w0.heap.size w0 w2):=hbw
  clear hb2
  go_wp2_with fail
  refine wpEarly_next hbw fun m => ?_
  refine wpEarly_nil ?_
  refine wpPlan_done ?_
  simp only[sel,↓reduceIte,Nat.reduceEqDiff]
  clear hbw
  obtain⟨w3,hw3⟩ : ∃ w3,w3=w2.drewN m:=⟨_,rfl⟩
  have HB3:Hid (Below w0.heap.size w0 w3):=by rw[hw3]; exact below_drewN _ HB2.out
  rw[← hw3]
  clear hw3 HB2 HKA HKB HCS HX
  have HN3:Hid (NetAt w3 B b N):=HN0.out.below HB3.out
  have HG3:Hid (Goes w w3 B b):=HG0.out.trans (Goes.net HN0.out (by have:=HS0.out; have:=HLN.out.1; omega) HB3.out)
  have HBX3:Hid (Box w3 w.heap.size 49 [.int .i64 i, .int .i64 R.kept.view, .int .i64 R.kept.normal, .bool R.kept.calm, .slice al R.kept.log.length cl, .int .i64 R.kept.commit, .slice ah R.hav.length ch, .slice aw R.wants.length cw, .slice ag R.gives.length cg, .slice an R.given.length cn]):=HB1.out.below HB3.out HB1.out.lt
  have HOF:Hid (Off 87 w3 b w.heap.size):=net_off HN.out (Nat.le_refl _) (Below.trans HB0.out (HB3.out.mono (by have:=HS0.out; omega))) HBX3.out.lt
  have HS3:Hid (w0.heap.size≤w3.heap.size):=HB3.out.size
  clear HB3 HN0 HB1 HG0
  by_cases hsk:sameK R.kept (N.repl i).kept=true
  ·rw[hsk]
   have HSN:Hid (storedN N i R=N):=by unfold storedN; rw[if_pos hsk]; rfl
   clear hsk
   obtain⟨w4,hw4⟩ : ∃ w4,w4=w3:=⟨_,rfl⟩
   obtain⟨N1,hN1⟩ : ∃ N1,N1=N:=⟨_,rfl⟩
   have HN4:Hid (NetAt w4 B b N1):=by rw[hw4,hN1]; exact HN3.out
   have HG4:Hid (Goes w w4 B b):=by rw[hw4]; exact HG3.out
   have HB4:Hid (Box w4 w.heap.size 49 [.int .i64 i, .int .i64 R.kept.view, .int .i64 R.kept.normal, .bool R.kept.calm, .slice al R.kept.log.length cl, .int .i64 R.kept.commit, .slice ah R.hav.length ch, .slice aw R.wants.length cw, .slice ag R.gives.length cg, .slice an R.given.length cn]):=by rw[hw4]; exact HBX3.out
   have HSN1:Hid (storedN N i R=N1):=by rw[hN1]; exact HSN.out
   have HR4:Hid (N1.repls.length=3∧N1.flying=N.flying):=by rw[hN1]; exact⟨HRL.out,rfl⟩
   rw[← hw4]
   clear hw4 hN1 HSN HN3 HG3 HBX3 HOF HSL HE HT
   obtain⟨vr,vsl,vf,vc,vt,vk,hx,hrows⟩:=HN4.out
   have hi3:i < N1.repls.length:=by have:=HR4.out.1; omega
   obtain⟨g4,cap4,wl,wh,ww,wg,wn,ps4,rfl,hg,hro,hcs⟩:=hrows.r.read i hi3 (N1.repl i) rfl
   have HX:Hid (Box w4 b _ _):=hx
   have HRW:Hid (NetRows w4 B N1 _ _ _ _ _ _):=hrows
   have HCS:Hid (∀ j,j < 10→w4.cell? ⟨g4,i * 10+j,none⟩=_∧_):=hcs
   have HGB:Hid (B≤g4):=hg
   clear hx hrows hro hcs hg
   have j1:(i:Int) < (N1.repls.length:Int):=by have:=HR4.out.1; omega
   go_upto_region 7 with fail
   refine wp_region_plan [0,0,0,0,0,0,0,0,0,1] (.free 0 (.done 1)) (by kernel_rfl) (by kernel_rfl) (fun h=>h) (Below w4.heap.size w4) (Below.refl _ _) (fun V n hV=>below_drewN n hV) fun n5 => ?_
   refine wpPlan_free (by kernel_rfl) ?_
   apply Exists.intro
   refine⟨?_, ?_⟩
   ·intro V hV
    have bx:=HX.out.below hV HX.out.lt
    have by' := HB4.out.below hV HB4.out.lt
    obtain⟨x0,x1,x2,x3,x4,x5⟩:=bx.c6
    obtain⟨y0,y1,y2,y3,y4,y5,y6,y7,y8,y9⟩:=by'.c10
    simp only[sel,↓reduceIte,Nat.reduceEqDiff]
    repeat (go_big_quiet_step (fail))
    refine wpQuiet_nil ?_
    rfl
   intro n6
   refine wpPlan_done ?_
   simp only[sel,↓reduceIte,Nat.reduceEqDiff]
   obtain⟨w5,hw5⟩ : ∃ w5,w5=(w4.drewN n5).drewN n6:=⟨_,rfl⟩
   have HB5:Hid (Below w4.heap.size w4 w5):=by rw[hw5]; exact below_drewN _ (below_drewN _ (Below.refl _ _))
   rw[← hw5]
   clear hw5
   have hg5 : ∀ j,j < 10→(∃ x,w5.cell? ⟨g4,i * 10+j,none⟩=some x)∧w5.frozen? ⟨g4,i * 10+j,none⟩=false:=fun j hj=>by
    obtain⟨vr',vsl',vf',vc',vt',vk',hx5,hr5⟩:=HN4.out.below HB5.out
    have e:=hx5.uniq (HX.out.below HB5.out HX.out.lt)
    simp only[List.cons.injEq,and_true] at e
    obtain⟨rfl,_⟩:=e
    obtain⟨g',cap',_,_,_,_,_,_,e,_,_,hc⟩:=hr5.r.read i hi3 (N1.repl i) rfl
    simp only[Value.slice.injEq,Option.some.injEq,Addr.mk.injEq,and_true,true_and] at e
    obtain⟨rfl,_⟩:=e
    obtain⟨q1,q2⟩:=hc j hj
    refine⟨?_,q2⟩
    rw[q1]
    exact⟨_,List.getElem?_eq_getElem (by show j < 10; omega)⟩
   obtain⟨⟨q0,p0⟩,r0⟩:=hg5 0 (by omega)
   obtain⟨⟨q1,p1⟩,r1⟩:=hg5 1 (by omega)
   obtain⟨⟨q2,p2⟩,r2⟩:=hg5 2 (by omega)
   obtain⟨⟨q3,p3⟩,r3⟩:=hg5 3 (by omega)
   obtain⟨⟨q4,p4⟩,r4⟩:=hg5 4 (by omega)
   obtain⟨⟨q5,p5⟩,r5⟩:=hg5 5 (by omega)
   obtain⟨⟨q6,p6⟩,r6⟩:=hg5 6 (by omega)
   obtain⟨⟨q7,p7⟩,r7⟩:=hg5 7 (by omega)
   obtain⟨⟨q8,p8⟩,r8⟩:=hg5 8 (by omega)
   obtain⟨⟨q9,p9⟩,r9⟩:=hg5 9 (by omega)
   rw[Nat.add_zero] at p0 r0
   clear hg5
   obtain⟨xl,xh,xw,xg,xn,xps,hxv,hxo⟩:=HW1.out.keeps (HG4.out.keeps.trans (Keeps.below HB5.out))
   simp only[replCells,Value.agg.injEq,Array.mk.injEq,List.cons.injEq,and_true] at hxv
   obtain⟨z1,z2,z3,z4,rfl,z5,rfl,rfl,rfl,rfl⟩:=hxv
   clear z1 z2 z3 z4 z5
   have HE5:Hid (NetAt (setAll w5 g4 (i * 10) [.int .i64 i, .int .i64 R.kept.view, .int .i64 R.kept.normal, .bool R.kept.calm, .slice al R.kept.log.length cl, .int .i64 R.kept.commit, .slice ah R.hav.length ch, .slice aw R.wants.length cw, .slice ag R.gives.length cg, .slice an R.given.length cn]) B b (replN N1 i R)∧Goes w (setAll w5 g4 (i * 10) [.int .i64 i, .int .i64 R.kept.view, .int .i64 R.kept.normal, .bool R.kept.calm, .slice al R.kept.log.length cl, .int .i64 R.kept.commit, .slice ah R.hav.length ch, .slice aw R.wants.length cw, .slice ag R.gives.length cg, .slice an R.given.length cn]) B b):=by
    have q:=(HRW.out.below HB5.out).repl (HX.out.below HB5.out HX.out.lt) HGB.out i hi3 R _ _ _ _ _ _ hxo
    simp only[replCells,HM.out] at q
    exact⟨q.1,(HG4.out.trans (Goes.of HX.out (Nat.le_trans HLN.out.1 HG4.out.below.size) HB5.out)).trans q.2⟩
   clear hxo HX HRW HCS HGB
   obtain⟨w6,hw6⟩ : ∃ w6,w6=setAll w5 g4 (i * 10) [.int .i64 i, .int .i64 R.kept.view, .int .i64 R.kept.normal, .bool R.kept.calm, .slice al R.kept.log.length cl, .int .i64 R.kept.commit, .slice ah R.hav.length ch, .slice aw R.wants.length cw, .slice ag R.gives.length cg, .slice an R.given.length cn]:=⟨_,rfl⟩
   rw[← hw6] at HE5
   simp only[setAll,Nat.add_assoc,Nat.reduceAdd] at hw6
   go_upto_region 8 with fail
   rw[← hw6]
   clear hw6 p0 p1 p2 p3 p4 p5 p6 p7 p8 p9 r0 r1 r2 r3 r4 r5 r6 r7 r8 r9
   obtain⟨vr6,vsl6,vf6,vc6,vt6,vk6,hx6,hrows6⟩:=HE5.out.1
   obtain⟨fs,hfs,hfo⟩:=hrows6.f
   obtain⟨af,cf,rfl⟩:=own_formN hfo.1
   have hfl:fs.length=N.flying.length:=by
    have:(replN N1 i R).flying.length=N1.flying.length:=rfl
    rw[← HR4.out.2,← this,hfs,List.length_map]
   obtain⟨qs,hqs,hqo⟩:=HMS.out
   have hql:qs.length=L.length:=by rw[hqs,List.length_map]
   have hqr:=HE5.out.2.row hqo.1 HSEP.out
   obtain⟨aq,cq,rfl⟩:=own_formN hqr
   have hqc:=own_cap hqr
   have HX6:Hid (Box w6 b _ _):=hx6
   have HR6:Hid (NetRows w6 B _ _ _ _ _ _ _):=hrows6
   have HFO:Hid (MsgsOwn w6 B _ fs):=hfo
   have HFS:Hid ((replN N1 i R).flying=fs.map Prod.fst):=hfs
   have HQR:Hid (w6.ownsRow B 141 8 _ _ _):=hqr
   have HQO:Hid (∀ p ∈ qs,w.ownsRow B 9 1 p.2 p.1.log.length (p.1.log.map enc)):=hqo.2
   have HQS:Hid (L=qs.map Prod.fst):=hqs
   have HFL:Hid (fs.length=N.flying.length):=hfl
   have HQL:Hid (qs.length=L.length):=hql
   have HQC:Hid (qs.length≤cq):=hqc
   clear hx6 hrows6 hfs hfo hfl hqs hqo hql hqr hqc
   have bx:=HX6.out
   have x2:=bx.cell 2 _ rfl
   clear bx
   go_upto_region 9 with fail
   have ek:(80 - (fs.length:Int))=((80 - fs.length:Nat):Int):=by have:=HLN.out.2.2.2; have:=HFL.out; omega
   rw[ek,wrap64_as _ ⟨by omega,by omega⟩]
   have HK:Hid (80 - fs.length=80 - N.flying.length):=by rw[HFL.out]; rfl
   obtain⟨k,hk⟩ : ∃ k,80 - fs.length=k:=⟨_,rfl⟩
   rw[hk]
   have HK:Hid (80 - fs.length=k):=hk
   have k2:(0:Int)≤((min k qs.length:Nat):Int):=by omega
   have k3:((min k qs.length:Nat):Int)≤(cq:Int):=by have:=HQC.out; omega
   have elc:=least_cut qs.length k
   clear ek hk x2
   refine wp_region_plan [0,0,0,0,0,0,0,0,0,0,0,0,1,2,2,2,2] (.free 0 (.line 1 (.done 2))) (by kernel_rfl) (by kernel_rfl) (fun h=>h) (fun V=>Box V b 87 [vr6,vsl6, .slice af fs.length cf,vc6,vt6,vk6]) HX6.out (fun V n hV=>hV) fun n7 => ?_
   refine wpPlan_free (by kernel_rfl) ?_
   apply Exists.intro
   refine⟨?_, ?_⟩
   ·intro V hV
    obtain⟨x0,x1,x2,x3,x4,x5⟩:=hV.c6
    simp only[sel,↓reduceIte,Nat.reduceEqDiff]
    iterate 11 (go_big_quiet_step (fail))
    try rw[elc]
    repeat (go_big_quiet_step (fail))
    refine wpQuiet_nil ?_
    rfl
   intro n8
   refine wpPlan_line ?_
   simp only[sel,↓reduceIte,Nat.reduceEqDiff]
   refine wpEarly_cons ?_
   obtain⟨w7,hw7⟩ : ∃ w7,w7=(w6.drewN n7).drewN n8:=⟨_,rfl⟩
   have HB7:Hid (Below w6.heap.size w6 w7):=by rw[hw7]; exact below_drewN _ (below_drewN _ (Below.refl _ _))
   have HX7:Hid (Box w7 b 87 [vr6,vsl6, .slice af fs.length cf,vc6,vt6,vk6]):=by rw[hw7]; exact HX6.out
   have HR7:Hid (NetRows w7 B (replN N1 i R) vr6 vsl6 (.slice af fs.length cf) vc6 vt6 vk6):=HR6.out.below HB7.out
   have HQ7:Hid (w7.ownsRow B 141 8 (.slice aq qs.length cq) qs.length (qs.flatMap msgRow)):=own_below HQR.out HB7.out (own_lt HQR.out)
   have HF7:Hid (MsgsOwn w7 B (.slice af fs.length cf) fs):=HFO.out.below HB7.out
   have HB6:Hid (B≤w7.heap.size):=Nat.le_trans HLN.out.1 (Nat.le_trans HE5.out.2.below.size HB7.out.size)
   rw[← hw7]
   clear hw7 HR6 HX6 HQR HFO
   go_wp2_with (at_builtin; refine wpList_append_row _ rfl _ _ 27 rfl B 141 Tryz.t141 _ 8 80 Tryz.underlying27 infoMsg zeroMsgV sizeMsg bytesMsg rfl (by decide) _ fs.length (fs.flatMap msgRow) rfl HF7.out.1 _ (min k qs.length) ((qs.flatMap msgRow).take (min k qs.length * 8)) rfl (rowAt_take HQ7.out (by decide) _ (Nat.min_le_right _ _) _) (fun u hu=>msgs_one qs HQO.out u (List.mem_of_mem_take hu)) (by have:=HFL.out; have:=HLN.out.2.2.2; have:=HQL.out; have:=HLN.out.2.2.1; unfold maxLen; omega) (by have:=HFL.out; have:=HLN.out.2.2.2; have:=HQL.out; have:=HLN.out.2.2.1; omega) HB6.out ?_)
   intro v9 w8 hown hgr hat
   obtain⟨a9,c9,rfl⟩:=own_formN hown
   have HXB:Hid (Box w8 b 87 [vr6,vsl6, .slice af fs.length cf,vc6,vt6,vk6]):=HX7.out.grown hgr (own_type HF7.out.1 HX7.out (by decide))
   have HOW:Hid (w8.ownsRow B 141 8 (.slice a9 (fs.length+min k qs.length) c9) (fs.length+min k qs.length) (fs.flatMap msgRow ++ (qs.flatMap msgRow).take (min k qs.length * 8))):=hown
   have HGR:Hid (w7.grownBy w8 (Value.slice af fs.length cf).ownBlock):=hgr
   have HAT:Hid ((Value.slice a9 (fs.length+min k qs.length) c9).ownBlock=(Value.slice af fs.length cf).ownBlock∨(Value.slice a9 (fs.length+min k qs.length) c9).ownBlock=some w7.heap.size):=hat
   clear hown hgr hat
   go_wp2_with fail
   refine wpEarly_next HXB.out fun m9 => ?_
   refine wpEarly_nil ?_
   refine wpPlan_done ?_
   simp only[sel,↓reduceIte,Nat.reduceEqDiff]
   have bx:=HXB.out
   have x2:=bx.cell 2 _ rfl
   have f2:=bx.frozen 2
   clear bx
   have HE9:Hid (NetAt ((w8.drewN m9).setCell ⟨b,2,none⟩ (.slice a9 (fs.length+min k qs.length) c9)) B b (sentN (replN N1 i R) L)∧Goes w ((w8.drewN m9).setCell ⟨b,2,none⟩ (.slice a9 (fs.length+min k qs.length) c9)) B b):=by
    have hk:min k qs.length=(qs.take k).length:=by rw[List.length_take]
    have e1:(qs.flatMap msgRow).take (min k qs.length * 8)=(qs.take k).flatMap msgRow:=by
     rw[flat_take msgRow 8 msgRow_len]
     rw[← flat_take msgRow 8 msgRow_len,← flat_take msgRow 8 msgRow_len]
     congr 1
     by_cases hkl:k≤qs.length
     ·rw[Nat.min_eq_left hkl]
     ·rw[Nat.min_eq_right (by omega),List.take_of_length_le (Nat.le_refl _),List.take_of_length_le (by omega)]
    have q:=HR7.out.more (wB:=w8.drewN m9) HX7.out HB6.out HLN.out.2.1 fs (qs.take k) HFS.out HF7.out (by have:=own_drewN m9 HOW.out; rw[e1] at this; simpa only[hk] using this) ⟨HGR.out.os,HGR.out.tape,HGR.out.output,HGR.out.size,HGR.out.block⟩ HAT.out (fun p hp=>own_below (HE5.out.2.keeps _ _ _ _ _ _ (Or.inl rfl) (HQO.out p (List.mem_of_mem_take hp))) HB7.out (own_lt (HE5.out.2.keeps _ _ _ _ _ _ (Or.inl rfl) (HQO.out p (List.mem_of_mem_take hp)))))
    have e2:flyN (replN N1 i R) ((replN N1 i R).flying ++ (qs.take k).map Prod.fst)=sentN (replN N1 i R) L:=by
     unfold flyN sentN
     have e3:(replN N1 i R).flying.length=fs.length:=by rw[HFS.out,List.length_map]
     rw[e3,HK.out,HQS.out,List.map_take]
    rw[e2] at q
    exact⟨q.1,(HE5.out.2.trans (Goes.net HE5.out.1 (Nat.le_trans HLN.out.1 HE5.out.2.below.size) HB7.out)).trans q.2⟩
   clear HXB HOW HGR HAT HR7 HX7 HQ7 HF7
   go_wp2_with fail
   go_ret
   rw[HST.out,HSN1.out]
   exact⟨rfl,HE9.out⟩
  ·have hsk' : sameK R.kept (N.repl i).kept=false:=by simpa using hsk
   rw[hsk']
   have HSN:Hid (storedN N i R=slotN N i (storeL (N.slot i) R.kept (-1))):=by unfold storedN; rw[if_neg hsk]; rfl
   clear hsk hsk'
   have hy:=HBX3.out
   obtain⟨y0,y1,y2,y3,y4,y5,y6,y7,y8,y9⟩:=hy.c10
   go_wp2_with fail
   refine (storeN_any B b i N R _ (-1) w3 HN3.out (HW1.out.keeps HG3.out.keeps) HF.out (by have:=HSL.out; omega) HM.out HT.out HE.out (Nat.le_trans HLN.out.1 (Nat.le_trans (by have:=HS0.out; omega) HS3.out))).mono ?_
   rintro e w4 ⟨rfl,hn4,hg4⟩
   clear y0 y1 y2 y3 y4 y5 y6 y7 y8 y9
   obtain⟨N1,hN1⟩ : ∃ N1,N1=slotN N i (storeL (N.slot i) R.kept (-1)):=⟨_,rfl⟩
   have HN4:Hid (NetAt w4 B b N1):=by rw[hN1]; exact hn4
   have HG4:Hid (Goes w w4 B b):=HG3.out.trans hg4
   have HB4:Hid (Box w4 w.heap.size 49 [.int .i64 i, .int .i64 R.kept.view, .int .i64 R.kept.normal, .bool R.kept.calm, .slice al R.kept.log.length cl, .int .i64 R.kept.commit, .slice ah R.hav.length ch, .slice aw R.wants.length cw, .slice ag R.gives.length cg, .slice an R.given.length cn]):=hg4.box HBX3.out HOF.out
   have HSN1:Hid (storedN N i R=N1):=by rw[hN1]; exact HSN.out
   have HR4:Hid (N1.repls.length=3∧N1.flying=N.flying):=by rw[hN1]; exact⟨HRL.out,rfl⟩
   clear hn4 hg4 hN1 HSN HN3 HG3 HBX3 HOF HSL HE HT hy
   go_upto_region 7 with fail
   obtain⟨vr,vsl,vf,vc,vt,vk,hx,hrows⟩:=HN4.out
   have hi3:i < N1.repls.length:=by have:=HR4.out.1; omega
   obtain⟨g4,cap4,wl,wh,ww,wg,wn,ps4,rfl,hg,hro,hcs⟩:=hrows.r.read i hi3 (N1.repl i) rfl
   have HX:Hid (Box w4 b _ _):=hx
   have HRW:Hid (NetRows w4 B N1 _ _ _ _ _ _):=hrows
   have HCS:Hid (∀ j,j < 10→w4.cell? ⟨g4,i * 10+j,none⟩=_∧_):=hcs
   have HGB:Hid (B≤g4):=hg
   clear hx hrows hro hcs hg
   have j1:(i:Int) < (N1.repls.length:Int):=by have:=HR4.out.1; omega
   go_upto_region 7 with fail
   refine wp_region_plan [0,0,0,0,0,0,0,0,0,1] (.free 0 (.done 1)) (by kernel_rfl) (by kernel_rfl) (fun h=>h) (Below w4.heap.size w4) (Below.refl _ _) (fun V n hV=>below_drewN n hV) fun n5 => ?_
   refine wpPlan_free (by kernel_rfl) ?_
   apply Exists.intro
   refine⟨?_, ?_⟩
   ·intro V hV
    have bx:=HX.out.below hV HX.out.lt
    have by' := HB4.out.below hV HB4.out.lt
    obtain⟨x0,x1,x2,x3,x4,x5⟩:=bx.c6
    obtain⟨y0,y1,y2,y3,y4,y5,y6,y7,y8,y9⟩:=by'.c10
    simp only[sel,↓reduceIte,Nat.reduceEqDiff]
    repeat (go_big_quiet_step (fail))
    refine wpQuiet_nil ?_
    rfl
   intro n6
   refine wpPlan_done ?_
   simp only[sel,↓reduceIte,Nat.reduceEqDiff]
   obtain⟨w5,hw5⟩ : ∃ w5,w5=(w4.drewN n5).drewN n6:=⟨_,rfl⟩
   have HB5:Hid (Below w4.heap.size w4 w5):=by rw[hw5]; exact below_drewN _ (below_drewN _ (Below.refl _ _))
   rw[← hw5]
   clear hw5
   have hg5 : ∀ j,j < 10→(∃ x,w5.cell? ⟨g4,i * 10+j,none⟩=some x)∧w5.frozen? ⟨g4,i * 10+j,none⟩=false:=fun j hj=>by
    obtain⟨vr',vsl',vf',vc',vt',vk',hx5,hr5⟩:=HN4.out.below HB5.out
    have e:=hx5.uniq (HX.out.below HB5.out HX.out.lt)
    simp only[List.cons.injEq,and_true] at e
    obtain⟨rfl,_⟩:=e
    obtain⟨g',cap',_,_,_,_,_,_,e,_,_,hc⟩:=hr5.r.read i hi3 (N1.repl i) rfl
    simp only[Value.slice.injEq,Option.some.injEq,Addr.mk.injEq,and_true,true_and] at e
    obtain⟨rfl,_⟩:=e
    obtain⟨q1,q2⟩:=hc j hj
    refine⟨?_,q2⟩
    rw[q1]
    exact⟨_,List.getElem?_eq_getElem (by show j < 10; omega)⟩
   obtain⟨⟨q0,p0⟩,r0⟩:=hg5 0 (by omega)
   obtain⟨⟨q1,p1⟩,r1⟩:=hg5 1 (by omega)
   obtain⟨⟨q2,p2⟩,r2⟩:=hg5 2 (by omega)
   obtain⟨⟨q3,p3⟩,r3⟩:=hg5 3 (by omega)
   obtain⟨⟨q4,p4⟩,r4⟩:=hg5 4 (by omega)
   obtain⟨⟨q5,p5⟩,r5⟩:=hg5 5 (by omega)
   obtain⟨⟨q6,p6⟩,r6⟩:=hg5 6 (by omega)
   obtain⟨⟨q7,p7⟩,r7⟩:=hg5 7 (by omega)
   obtain⟨⟨q8,p8⟩,r8⟩:=hg5 8 (by omega)
   obtain⟨⟨q9,p9⟩,r9⟩:=hg5 9 (by omega)
   rw[Nat.add_zero] at p0 r0
   clear hg5
   obtain⟨xl,xh,xw,xg,xn,xps,hxv,hxo⟩:=HW1.out.keeps (HG4.out.keeps.trans (Keeps.below HB5.out))
   simp only[replCells,Value.agg.injEq,Array.mk.injEq,List.cons.injEq,and_true] at hxv
   obtain⟨z1,z2,z3,z4,rfl,z5,rfl,rfl,rfl,rfl⟩:=hxv
   clear z1 z2 z3 z4 z5
   have HE5:Hid (NetAt (setAll w5 g4 (i * 10) [.int .i64 i, .int .i64 R.kept.view, .int .i64 R.kept.normal, .bool R.kept.calm, .slice al R.kept.log.length cl, .int .i64 R.kept.commit, .slice ah R.hav.length ch, .slice aw R.wants.length cw, .slice ag R.gives.length cg, .slice an R.given.length cn]) B b (replN N1 i R)∧Goes w (setAll w5 g4 (i * 10) [.int .i64 i, .int .i64 R.kept.view, .int .i64 R.kept.normal, .bool R.kept.calm, .slice al R.kept.log.length cl, .int .i64 R.kept.commit, .slice ah R.hav.length ch, .slice aw R.wants.length cw, .slice ag R.gives.length cg, .slice an R.given.length cn]) B b):=by
    have q:=(HRW.out.below HB5.out).repl (HX.out.below HB5.out HX.out.lt) HGB.out i hi3 R _ _ _ _ _ _ hxo
    simp only[replCells,HM.out] at q
    exact⟨q.1,(HG4.out.trans (Goes.of HX.out (Nat.le_trans HLN.out.1 HG4.out.below.size) HB5.out)).trans q.2⟩
   clear hxo HX HRW HCS HGB
   obtain⟨w6,hw6⟩ : ∃ w6,w6=setAll w5 g4 (i * 10) [.int .i64 i, .int .i64 R.kept.view, .int .i64 R.kept.normal, .bool R.kept.calm, .slice al R.kept.log.length cl, .int .i64 R.kept.commit, .slice ah R.hav.length ch, .slice aw R.wants.length cw, .slice ag R.gives.length cg, .slice an R.given.length cn]:=⟨_,rfl⟩
   rw[← hw6] at HE5
   simp only[setAll,Nat.add_assoc,Nat.reduceAdd] at hw6
   go_upto_region 8 with fail
   rw[← hw6]
   clear hw6 p0 p1 p2 p3 p4 p5 p6 p7 p8 p9 r0 r1 r2 r3 r4 r5 r6 r7 r8 r9
   obtain⟨vr6,vsl6,vf6,vc6,vt6,vk6,hx6,hrows6⟩:=HE5.out.1
   obtain⟨fs,hfs,hfo⟩:=hrows6.f
   obtain⟨af,cf,rfl⟩:=own_formN hfo.1
   have hfl:fs.length=N.flying.length:=by
    have:(replN N1 i R).flying.length=N1.flying.length:=rfl
    rw[← HR4.out.2,← this,hfs,List.length_map]
   obtain⟨qs,hqs,hqo⟩:=HMS.out
   have hql:qs.length=L.length:=by rw[hqs,List.length_map]
   have hqr:=HE5.out.2.row hqo.1 HSEP.out
   obtain⟨aq,cq,rfl⟩:=own_formN hqr
   have hqc:=own_cap hqr
   have HX6:Hid (Box w6 b _ _):=hx6
   have HR6:Hid (NetRows w6 B _ _ _ _ _ _ _):=hrows6
   have HFO:Hid (MsgsOwn w6 B _ fs):=hfo
   have HFS:Hid ((replN N1 i R).flying=fs.map Prod.fst):=hfs
   have HQR:Hid (w6.ownsRow B 141 8 _ _ _):=hqr
   have HQO:Hid (∀ p ∈ qs,w.ownsRow B 9 1 p.2 p.1.log.length (p.1.log.map enc)):=hqo.2
   have HQS:Hid (L=qs.map Prod.fst):=hqs
   have HFL:Hid (fs.length=N.flying.length):=hfl
   have HQL:Hid (qs.length=L.length):=hql
   have HQC:Hid (qs.length≤cq):=hqc
   clear hx6 hrows6 hfs hfo hfl hqs hqo hql hqr hqc
   have bx:=HX6.out
   have x2:=bx.cell 2 _ rfl
   clear bx
   go_upto_region 9 with fail
   have ek:(80 - (fs.length:Int))=((80 - fs.length:Nat):Int):=by have:=HLN.out.2.2.2; have:=HFL.out; omega
   rw[ek,wrap64_as _ ⟨by omega,by omega⟩]
   have HK:Hid (80 - fs.length=80 - N.flying.length):=by rw[HFL.out]; rfl
   obtain⟨k,hk⟩ : ∃ k,80 - fs.length=k:=⟨_,rfl⟩
   rw[hk]
   have HK:Hid (80 - fs.length=k):=hk
   have k2:(0:Int)≤((min k qs.length:Nat):Int):=by omega
   have k3:((min k qs.length:Nat):Int)≤(cq:Int):=by have:=HQC.out; omega
   have elc:=least_cut qs.length k
   clear ek hk x2
   refine wp_region_plan [0,0,0,0,0,0,0,0,0,0,0,0,1,2,2,2,2] (.free 0 (.line 1 (.done 2))) (by kernel_rfl) (by kernel_rfl) (fun h=>h) (fun V=>Box V b 87 [vr6,vsl6, .slice af fs.length cf,vc6,vt6,vk6]) HX6.out (fun V n hV=>hV) fun n7 => ?_
   refine wpPlan_free (by kernel_rfl) ?_
   apply Exists.intro
   refine⟨?_, ?_⟩
   ·intro V hV
    obtain⟨x0,x1,x2,x3,x4,x5⟩:=hV.c6
    simp only[sel,↓reduceIte,Nat.reduceEqDiff]
    iterate 11 (go_big_quiet_step (fail))
    try rw[elc]
    repeat (go_big_quiet_step (fail))
    refine wpQuiet_nil ?_
    rfl
   intro n8
   refine wpPlan_line ?_
   simp only[sel,↓reduceIte,Nat.reduceEqDiff]
   refine wpEarly_cons ?_
   obtain⟨w7,hw7⟩ : ∃ w7,w7=(w6.drewN n7).drewN n8:=⟨_,rfl⟩
   have HB7:Hid (Below w6.heap.size w6 w7):=by rw[hw7]; exact below_drewN _ (below_drewN _ (Below.refl _ _))
   have HX7:Hid (Box w7 b 87 [vr6,vsl6, .slice af fs.length cf,vc6,vt6,vk6]):=by rw[hw7]; exact HX6.out
   have HR7:Hid (NetRows w7 B (replN N1 i R) vr6 vsl6 (.slice af fs.length cf) vc6 vt6 vk6):=HR6.out.below HB7.out
   have HQ7:Hid (w7.ownsRow B 141 8 (.slice aq qs.length cq) qs.length (qs.flatMap msgRow)):=own_below HQR.out HB7.out (own_lt HQR.out)
   have HF7:Hid (MsgsOwn w7 B (.slice af fs.length cf) fs):=HFO.out.below HB7.out
   have HB6:Hid (B≤w7.heap.size):=Nat.le_trans HLN.out.1 (Nat.le_trans HE5.out.2.below.size HB7.out.size)
   rw[← hw7]
   clear hw7 HR6 HX6 HQR HFO
   go_wp2_with (at_builtin; refine wpList_append_row _ rfl _ _ 27 rfl B 141 Tryz.t141 _ 8 80 Tryz.underlying27 infoMsg zeroMsgV sizeMsg bytesMsg rfl (by decide) _ fs.length (fs.flatMap msgRow) rfl HF7.out.1 _ (min k qs.length) ((qs.flatMap msgRow).take (min k qs.length * 8)) rfl (rowAt_take HQ7.out (by decide) _ (Nat.min_le_right _ _) _) (fun u hu=>msgs_one qs HQO.out u (List.mem_of_mem_take hu)) (by have:=HFL.out; have:=HLN.out.2.2.2; have:=HQL.out; have:=HLN.out.2.2.1; unfold maxLen; omega) (by have:=HFL.out; have:=HLN.out.2.2.2; have:=HQL.out; have:=HLN.out.2.2.1; omega) HB6.out ?_)
   intro v9 w8 hown hgr hat
   obtain⟨a9,c9,rfl⟩:=own_formN hown
   have HXB:Hid (Box w8 b 87 [vr6,vsl6, .slice af fs.length cf,vc6,vt6,vk6]):=HX7.out.grown hgr (own_type HF7.out.1 HX7.out (by decide))
   have HOW:Hid (w8.ownsRow B 141 8 (.slice a9 (fs.length+min k qs.length) c9) (fs.length+min k qs.length) (fs.flatMap msgRow ++ (qs.flatMap msgRow).take (min k qs.length * 8))):=hown
   have HGR:Hid (w7.grownBy w8 (Value.slice af fs.length cf).ownBlock):=hgr
   have HAT:Hid ((Value.slice a9 (fs.length+min k qs.length) c9).ownBlock=(Value.slice af fs.length cf).ownBlock∨(Value.slice a9 (fs.length+min k qs.length) c9).ownBlock=some w7.heap.size):=hat
   clear hown hgr hat
   go_wp2_with fail
   refine wpEarly_next HXB.out fun m9 => ?_
   refine wpEarly_nil ?_
   refine wpPlan_done ?_
   simp only[sel,↓reduceIte,Nat.reduceEqDiff]
   have bx:=HXB.out
   have x2:=bx.cell 2 _ rfl
   have f2:=bx.frozen 2
   clear bx
   have HE9:Hid (NetAt ((w8.drewN m9).setCell ⟨b,2,none⟩ (.slice a9 (fs.length+min k qs.length) c9)) B b (sentN (replN N1 i R) L)∧Goes w ((w8.drewN m9).setCell ⟨b,2,none⟩ (.slice a9 (fs.length+min k qs.length) c9)) B b):=by
    have hk:min k qs.length=(qs.take k).length:=by rw[List.length_take]
    have e1:(qs.flatMap msgRow).take (min k qs.length * 8)=(qs.take k).flatMap msgRow:=by
     rw[flat_take msgRow 8 msgRow_len]
     rw[← flat_take msgRow 8 msgRow_len,← flat_take msgRow 8 msgRow_len]
     congr 1
     by_cases hkl:k≤qs.length
     ·rw[Nat.min_eq_left hkl]
     ·rw[Nat.min_eq_right (by omega),List.take_of_length_le (Nat.le_refl _),List.take_of_length_le (by omega)]
    have q:=HR7.out.more (wB:=w8.drewN m9) HX7.out HB6.out HLN.out.2.1 fs (qs.take k) HFS.out HF7.out (by have:=own_drewN m9 HOW.out; rw[e1] at this; simpa only[hk] using this) ⟨HGR.out.os,HGR.out.tape,HGR.out.output,HGR.out.size,HGR.out.block⟩ HAT.out (fun p hp=>own_below (HE5.out.2.keeps _ _ _ _ _ _ (Or.inl rfl) (HQO.out p (List.mem_of_mem_take hp))) HB7.out (own_lt (HE5.out.2.keeps _ _ _ _ _ _ (Or.inl rfl) (HQO.out p (List.mem_of_mem_take hp)))))
    have e2:flyN (replN N1 i R) ((replN N1 i R).flying ++ (qs.take k).map Prod.fst)=sentN (replN N1 i R) L:=by
     unfold flyN sentN
     have e3:(replN N1 i R).flying.length=fs.length:=by rw[HFS.out,List.length_map]
     rw[e3,HK.out,HQS.out,List.map_take]
    rw[e2] at q
    exact⟨q.1,(HE5.out.2.trans (Goes.net HE5.out.1 (Nat.le_trans HLN.out.1 HE5.out.2.below.size) HB7.out)).trans q.2⟩
   clear HXB HOW HGR HAT HR7 HX7 HQ7 HF7
   go_wp2_with fail
   go_ret
   rw[HST.out,HSN1.out]
   exact⟨rfl,HE9.out⟩
 ·have q1:(e0 != 0)=true:=by simpa using h0
  have HST:Hid (settleP N i R L e0=(e0,N)):=by unfold settleP; rw[if_neg h0]; rfl
  have HNE:Hid (NetAt w0 B b N):=HN.out.below HB0.out
  clear h0
  go_wp2_with fail
  go_ret
  rw[HST.out]
  exact⟨rfl,HNE.out,HG0.out⟩

end Go.Proofs.YtmdgkjbiicaljahGreatDoor

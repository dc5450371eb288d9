/- The program's own net.Run. -/
import Derived.Test.YtmdgkjbiicaljahGreatDoorNetNew
import Derived.Test.YtmdgkjbiicaljahGreatDoorJointVolMem
import Derived.Test.YtmdgkjbiicaljahGreatDoorJointSlotsMath
import Derived.Test.YtmdgkjbiicaljahGreatDoorJointBuildGo
import Derived.Deep.RegionLaw
import Derived.Deep.RegionWith
import Derived.BigRegion
import Derived.Lib.AppendIntMem
set_option linter.unusedVariables false
set_option linter.unusedSimpArgs false
namespace Go.Proofs.YtmdgkjbiicaljahGreatDoor
open Go.RowKit

theorem infoErr : Tryz.prog.info? 33 = some Tryz.t33 := by kernel_rfl
theorem zeroErr : Tryz.t33.zero = some (.int .i64 0) := by kernel_rfl
theorem sizeErr : Tryz.t33.size = 1 := by kernel_rfl
theorem bytesErr : Tryz.t33.bytes = 8 := by kernel_rfl

def zeroAct : ActM := ⟨0,0,0,0,0,⟨0,0,0,[]⟩⟩
/-- A script in memory. -/
def ActsAt (w : World) (v : Value) (l : List ActM) : Prop :=
 ∃ a cap,v = .slice a l.length cap∧l.length * 88≤140737488355328∧(∀ x ∈ l,x.op.data.length≤140737488355328) ∧ ∀ i,i < l.length → ∃ b o,a=some ⟨b,o,none⟩ ∧ ∀ j u,(actCells (l.getD i zeroAct))[j]? = some u→w.cell? ⟨b,o+i * 9+j,none⟩=some u
theorem ActsAt.below {w w' : World} {v : Value} {l : List ActM} (h : ActsAt w v l) (hb : Below w.heap.size w w') : ActsAt w' v l := by
 obtain⟨a,cap,hv,hl,hd,hc⟩:=h
 refine⟨a,cap,hv,hl,hd,fun i hi => ?_⟩
 obtain⟨b,o,ha,hcell⟩:=hc i hi
 exact⟨b,o,ha,fun j u hj=>by rw[hb.cell (p:=⟨b,o+i * 9+j,none⟩) (lt_of_cell (hcell j u hj))]; exact hcell j u hj⟩
def noneN : NetM := ⟨[],[],[],[],[],[]⟩
/-- P6.1 -/
def runE (cl : Int) (l : List ActM) : Int := if cl < 1 ∨ 4 < cl then 2 else if 300 < l.length then 1 else 0
def runO (cl : Int) (l : List ActM) : NetM := if runE cl l = 0 then runN cl.toNat l else noneN
/-- An outcome in memory of the call's own. -/
def OutNew (w : World) (B : Nat) (v : Value) (N : NetM) : Prop := ∃ vr vs vf vc vt vk,v = .agg #[vr,vs,vf,vc,vt,vk] ∧ NetRows w B N vr vs vf vc vt vk
theorem noneRows (w : World) (B : Nat) : NetRows w B noneN (.slice none 0 0) (.slice none 0 0) (.slice none 0 0) (.slice none 0 0) (.slice none 0 0) (.slice none 0 0) :=
 ⟨⟨[],rfl,World.ownsRow_nil _ _ _ _,fun p hp=>by simp at hp⟩,⟨[],rfl,World.ownsRow_nil _ _ _ _,fun p hp=>by simp at hp⟩,msgsNil _ _,World.ownsRow_nil _ _ _ _,World.ownsRow_nil _ _ _ _,World.ownsRow_nil _ _ _ _⟩
theorem NetRows.codeMore {w wB : World} {B b : Nat} {N : NetM} {vr vs vf vc vt vk v' : Value} {c : Int} (h : NetRows w B N vr vs vf vc vt vk) (hx : Box w b 87 [vr,vs,vf,vc,vt,vk]) (hB : B ≤ w.heap.size) (hBb : B ≤ b)
  (hown:wB.ownsRow B 33 1 v' (N.codes.length+1) (N.codes.map encI ++ [.int .i64 c])) (hg:w.grownBy wB vk.ownBlock) :
  NetAt (wB.setCell ⟨b,5,none⟩ v') B b (coded (c,N))∧Below B w (wB.setCell ⟨b,5,none⟩ v'):=by
 have hxB:Box wB b 87 [vr,vs,vf,vc,vt,vk]:=hx.grown hg (own_type h.k hx (by decide))
 have st:Stay [33,87] w (wB.setCell ⟨b,5,none⟩ v'):=(Stay.grown h.k hg).trans (Stay.set hxB 5 v')
 refine⟨⟨vr,vs,vf,vc,vt,v',hxB.set 5 v',h.r.stay st (by decide),h.s.stay st (by decide),h.f.stay st (by decide),h.c.stay st (by decide),h.t.stay st (by decide), ?_⟩, ?_⟩
 ·show World.ownsRow _ _ _ _ _ (N.codes ++ [c]).length ((N.codes ++ [c]).map encI)
  rw[List.length_append,List.map_append]
  have:=own_other (a:=⟨b,5,none⟩) hown (own_type hown hxB (by decide)) v'
  simpa [encI] using this
 ·have:Below B w wB:=(Below.refl _ _).grown hg hB fun k hk=>own_ge h.k k hk
  exact this.setCell hBb _
theorem runN_next (n : Nat) (l : List ActM) (k : Nat) (h : k < l.length) : runN n (l.take (k + 1)) = stepN (runN n (l.take k)) (l.getD k zeroAct) := by
 have e:l.take (k+1)=l.take k ++ [l.getD k zeroAct]:=by
  rw[List.take_add_one]
  simp[List.getD,h]
 rw[e,runN_snoc]

theorem NetRows.base {w : World} {B B' : Nat} {N : NetM} {vr vs vf vc vt vk : Value} (h : NetRows w B N vr vs vf vc vt vk) (hb : B' ≤ B) : NetRows w B' N vr vs vf vc vt vk := by
 obtain⟨⟨rs,r1,r2,r3⟩,⟨ss,s1,s2,s3⟩,⟨ps,f1,f2⟩,hc,ht,hk⟩:=h
 exact⟨⟨rs,r1,own_base r2 hb,fun p hp=>(r3 p hp).base hb⟩,⟨ss,s1,own_base s2 hb,fun p hp=>own_base (s3 p hp) hb⟩,⟨ps,f1,f2.base hb⟩,own_base hc hb,own_base ht hb,own_base hk hb⟩
theorem Stay.boxAll {w : World} {b : Nat} {t : TypeId} {cs : List Value} (hb : Box w b t cs) (i : Nat) (xs : List Value) : Stay [t] w (setAll w b i xs) :=
 fun _ e _ _ _ _ he r=>setAll_own xs w i r (own_type r hb (fun q=>he (by simp[q])))

set_option maxRecDepth 4000 in
set_option maxHeartbeats 8000000 in
theorem runGo_any (cl : Int) (l : List ActM) (v : Value) (w : World) (h : ActsAt w v l) :
  Calls Tryz.prog 9 #[.int .i64 cl,v] w fun e w' => ∃ v',e = .returned (.tuple #[v', .int .i64 (runE cl l)])∧OutNew w' w.heap.size v' (runO cl l)∧Below w.heap.size w w' := by
 have HAT:Hid (∀ W,Below w.heap.size w W→ActsAt W v l):=fun W hW=>h.below hW
 obtain⟨aa,ca,rfl,hla,hld,_⟩:=h
 have b0:=Box.new w 32 [.slice none 0 0, .slice none 0 0, .slice none 0 0, .slice none 0 0, .slice none 0 0, .slice none 0 0]
 obtain⟨w0,hw0⟩ : ∃ w0,w0=w.alloc (.cells #[.slice none 0 0, .slice none 0 0, .slice none 0 0, .slice none 0 0, .slice none 0 0, .slice none 0 0] 32):=⟨_,rfl⟩
 have hb0:Below w.heap.size w w0:=by rw[hw0]; exact below_alloc _ _
 have hs0:w0.heap.size=w.heap.size+1:=by rw[hw0]; simp
 rw[← hw0] at b0
 have H0:Hid (Box w0 w.heap.size 32 [.slice none 0 0, .slice none 0 0, .slice none 0 0, .slice none 0 0, .slice none 0 0, .slice none 0 0]):=b0
 have HB0:Hid (Below w.heap.size w w0):=hb0
 have HS0:Hid (w0.heap.size=w.heap.size+1):=hs0
 have HE:Hid (runE cl l=if cl < 1∨4 < cl then 2 else if 300 < l.length then 1 else 0):=rfl
 have HO:Hid (runO cl l=if runE cl l=0 then runN cl.toNat l else noneN):=rfl
 obtain⟨y0,y1,y2,y3,y4,y5⟩:=b0.c6
 obtain⟨f0,f1,f2,f3,f4,f5⟩:=b0.z6
 clear b0 hb0 hs0
 go_enter Tryz.func9,Tryz.ntmps9
 go_upto_region 1 with fail
 rw[← hw0]
 clear hw0
 by_cases hc1:cl < 1
 ·have q1:decide (cl < 1)=true:=by simpa using hc1
  have hE:runE cl l=2:=by unfold runE; rw[if_pos (Or.inl hc1)]
  have HE2:Hid (runE cl l=2∧runO cl l=noneN):=⟨hE,by rw[HO.out,hE]; rfl⟩
  clear hc1 hE
  obtain⟨w5,hw5⟩ : ∃ w5,w5=setAll w0 w.heap.size 0 [.slice none 0 0, .slice none 0 0, .slice none 0 0, .slice none 0 0, .slice none 0 0, .slice none 0 0]:=⟨_,rfl⟩
  have H5:Hid (Box w5 w.heap.size 32 [.slice none 0 0, .slice none 0 0, .slice none 0 0, .slice none 0 0, .slice none 0 0, .slice none 0 0]∧Below w.heap.size w w5):=by
   rw[hw5]
   refine⟨setAll_box H0.out _ rfl, ?_⟩
   have q:=setAll_beside_up (b:=w.heap.size) (Nat.le_refl _) [.slice none 0 0, .slice none 0 0, .slice none 0 0, .slice none 0 0, .slice none 0 0, .slice none 0 0] w w0 0 (Beside.of HB0.out)
   exact q.below (Nat.le_refl _) (Nat.le_refl _)
  simp only[setAll] at hw5
  go_wp2_with fail
  rw[← hw5]
  clear hw5 y0 y1 y2 y3 y4 y5 f0 f1 f2 f3 f4 f5
  have h0:=H5.out.1
  obtain⟨y0,y1,y2,y3,y4,y5⟩:=h0.c6
  clear h0
  exact bodyPost_ret (v := .tuple #[.agg #[.slice none 0 0, .slice none 0 0, .slice none 0 0, .slice none 0 0, .slice none 0 0, .slice none 0 0], .int .i64 2]) (by clear H5 HE2 HE HO HAT HB0 H0 HS0; simp[results,Tryz.results9,go_sem, *]) rfl ⟨_,by rw[HE2.out.1],by rw[HE2.out.2]; exact⟨_,_,_,_,_,_,rfl,noneRows _ _⟩,H5.out.2⟩
 ·have q1:decide (cl < 1)=false:=by simpa using hc1
  by_cases hc4:4 < cl
  ·have q2:decide ((4:Int) < cl)=true:=by simpa using hc4
   have hE:runE cl l=2:=by unfold runE; rw[if_pos (Or.inr hc4)]
   have HE2:Hid (runE cl l=2∧runO cl l=noneN):=⟨hE,by rw[HO.out,hE]; rfl⟩
   clear hc1 hc4 hE
   obtain⟨w5,hw5⟩ : ∃ w5,w5=setAll w0 w.heap.size 0 [.slice none 0 0, .slice none 0 0, .slice none 0 0, .slice none 0 0, .slice none 0 0, .slice none 0 0]:=⟨_,rfl⟩
   have H5:Hid (Box w5 w.heap.size 32 [.slice none 0 0, .slice none 0 0, .slice none 0 0, .slice none 0 0, .slice none 0 0, .slice none 0 0]∧Below w.heap.size w w5):=by
    rw[hw5]
    refine⟨setAll_box H0.out _ rfl, ?_⟩
    have q:=setAll_beside_up (b:=w.heap.size) (Nat.le_refl _) [.slice none 0 0, .slice none 0 0, .slice none 0 0, .slice none 0 0, .slice none 0 0, .slice none 0 0] w w0 0 (Beside.of HB0.out)
    exact q.below (Nat.le_refl _) (Nat.le_refl _)
   simp only[setAll] at hw5
   go_wp2_with fail
   rw[← hw5]
   clear hw5 y0 y1 y2 y3 y4 y5 f0 f1 f2 f3 f4 f5
   have h0:=H5.out.1
   obtain⟨y0,y1,y2,y3,y4,y5⟩:=h0.c6
   clear h0
   exact bodyPost_ret (v := .tuple #[.agg #[.slice none 0 0, .slice none 0 0, .slice none 0 0, .slice none 0 0, .slice none 0 0, .slice none 0 0], .int .i64 2]) (by clear H5 HE2 HE HO HAT HB0 H0 HS0; simp[results,Tryz.results9,go_sem, *]) rfl ⟨_,by rw[HE2.out.1],by rw[HE2.out.2]; exact⟨_,_,_,_,_,_,rfl,noneRows _ _⟩,H5.out.2⟩
  ·have q2:decide ((4:Int) < cl)=false:=by simpa using hc4
   by_cases h300:300 < l.length
   ·have q3:(300:Int) < (l.length:Int):=by omega
    have hE:runE cl l=1:=by unfold runE; rw[if_neg (by omega),if_pos h300]
    have HE2:Hid (runE cl l=1∧runO cl l=noneN):=⟨hE,by rw[HO.out,hE]; rfl⟩
    clear hc1 hc4 hE h300
    obtain⟨w5,hw5⟩ : ∃ w5,w5=setAll w0 w.heap.size 0 [.slice none 0 0, .slice none 0 0, .slice none 0 0, .slice none 0 0, .slice none 0 0, .slice none 0 0]:=⟨_,rfl⟩
    have H5:Hid (Box w5 w.heap.size 32 [.slice none 0 0, .slice none 0 0, .slice none 0 0, .slice none 0 0, .slice none 0 0, .slice none 0 0]∧Below w.heap.size w w5):=by
     rw[hw5]
     refine⟨setAll_box H0.out _ rfl, ?_⟩
     have q:=setAll_beside_up (b:=w.heap.size) (Nat.le_refl _) [.slice none 0 0, .slice none 0 0, .slice none 0 0, .slice none 0 0, .slice none 0 0, .slice none 0 0] w w0 0 (Beside.of HB0.out)
     exact q.below (Nat.le_refl _) (Nat.le_refl _)
    simp only[setAll] at hw5
    go_wp2_with fail
    rw[← hw5]
    clear hw5 y0 y1 y2 y3 y4 y5 f0 f1 f2 f3 f4 f5
    have h0:=H5.out.1
    obtain⟨y0,y1,y2,y3,y4,y5⟩:=h0.c6
    clear h0
    exact bodyPost_ret (v := .tuple #[.agg #[.slice none 0 0, .slice none 0 0, .slice none 0 0, .slice none 0 0, .slice none 0 0, .slice none 0 0], .int .i64 1]) (by clear H5 HE2 HE HO HAT HB0 H0 HS0; simp[results,Tryz.results9,go_sem, *]) rfl ⟨_,by rw[HE2.out.1],by rw[HE2.out.2]; exact⟨_,_,_,_,_,_,rfl,noneRows _ _⟩,H5.out.2⟩
   ·have q3 : ¬ (300:Int) < (l.length:Int):=by omega
    have hE:runE cl l=0:=by unfold runE; rw[if_neg (by omega),if_neg h300]
    obtain⟨n,hn⟩ : ∃ n:Nat,cl=n:=⟨cl.toNat,by omega⟩
    subst hn
    have HE2:Hid (runE (n:Int) l=0∧runO (n:Int) l=runN n l):=⟨hE,by rw[HO.out,if_pos hE]; rfl⟩
    have HN4:Hid (1≤n∧n≤4∧l.length≤300):=⟨by omega,by omega,by omega⟩
    clear hc1 hc4 hE h300
    go_wp2_with fail
    refine (newWorld_any n w0 HN4.out.1 HN4.out.2.1).mono ?_
    rintro e w1 ⟨rfl,hn1,hb1⟩
    obtain⟨B,hB⟩ : ∃ B,w0.heap.size=B:=⟨_,rfl⟩
    have HBB:Hid (w.heap.size < B):=by rw[← hB,HS0.out]; exact Nat.lt_succ_self _
    rw[hB] at hn1 hb1 ⊢
    have HN1:Hid (NetAt w1 B B (runN n (l.take 0))∧Below B w0 w1):=⟨hn1,hb1⟩
    have HB0S:Hid (w0.heap.size=B):=hB
    clear hn1 hb1 hB y0 y1 y2 y3 y4 y5 f0 f1 f2 f3 f4 f5
    go_wp2_with fail
    go_loopw [9,32] (fun p9 i wr => ∃ k:Nat,k≤l.length∧i = .int .i64 k∧NetAt wr B B (runN n (l.take k))∧Below B w0 wr) (fun p9 i wr=>l.length - (intOf i).toNat)
    case atStart=>exact⟨0,by omega,rfl,HN1.out.1,HN1.out.2⟩
    case round =>
     obtain⟨k,hk,rfl,hn,hb⟩:=hrel
     have HN:Hid (NetAt wr B B (runN n (l.take k))):=hn
     have HB:Hid (Below B w0 wr):=hb
     have HK:Hid (k≤l.length):=hk
     have HBW:Hid (B≤wr.heap.size):=by rw[← HB0S.out]; exact HB.out.size
     have HW:Hid (Below w.heap.size w wr):=HB0.out.trans (HB.out.mono (Nat.le_of_lt HBB.out))
     clear hn hb hk
     by_cases hlt:k < l.length
     ·have k0:(0:Int)≤(k:Int):=by omega
      have k1:(k:Int) < (l.length:Int):=by omega
      have HKL:Hid (k < l.length):=hlt
      obtain⟨a',ca',ea,_,hd,hcs⟩:=HAT.out wr HW.out
      obtain⟨ab,ao,ha,hcell⟩:=hcs k hlt
      simp only[Value.slice.injEq,true_and] at ea
      obtain⟨ea,ez2⟩:=ea
      clear ez2
      rw[← ea] at ha
      subst ha
      obtain⟨A,hA⟩ : ∃ A,l.getD k zeroAct=A:=⟨_,rfl⟩
      have HA:Hid (l.getD k zeroAct=A):=hA
      have HDL:Hid (A.op.data.length≤281474976710656):=by
       rw[← hA]
       have:=hd (l.getD k zeroAct) (by simp[List.getD,hlt])
       show _≤_
       omega
      rw[hA] at hcell
      have t0:=hcell 0 _ rfl
      have t1:=hcell 1 _ rfl
      have t2:=hcell 2 _ rfl
      have t3:=hcell 3 _ rfl
      have t4:=hcell 4 _ rfl
      have t5:=hcell 5 _ rfl
      have t6:=hcell 6 _ rfl
      have t7:=hcell 7 _ rfl
      have t8:=hcell 8 _ rfl
      rw[Nat.add_zero] at t0
      have b4:=Box.new wr 40 [.int .i64 A.kind, .int .i64 A.c, .int .i64 A.r, .int .i64 A.k, .int .i64 A.n, .int .i64 A.op.kind, .int .i64 A.op.place, .int .i64 A.op.snap, .string ⟨A.op.data.toArray⟩]
      obtain⟨w4,hw4⟩ : ∃ w4,w4=wr.alloc (.cells #[.int .i64 A.kind, .int .i64 A.c, .int .i64 A.r, .int .i64 A.k, .int .i64 A.n, .int .i64 A.op.kind, .int .i64 A.op.place, .int .i64 A.op.snap, .string ⟨A.op.data.toArray⟩] 40):=⟨_,rfl⟩
      have hb4:Below wr.heap.size wr w4:=by rw[hw4]; exact below_alloc _ _
      rw[← hw4] at b4
      have HN4' : Hid (NetAt w4 B B (runN n (l.take k))):=HN.out.below hb4
      have HB4:Hid (Below wr.heap.size wr w4):=hb4
      have B4:Hid (Box w4 wr.heap.size 40 [.int .i64 A.kind, .int .i64 A.c, .int .i64 A.r, .int .i64 A.k, .int .i64 A.n, .int .i64 A.op.kind, .int .i64 A.op.place, .int .i64 A.op.snap, .string ⟨A.op.data.toArray⟩]):=b4
      clear hcell hcs hd ea hA hb4 b4 hlt
      go_upto_region 11 with fail
      rw[← hw4]
      clear hw4 t0 t1 t2 t3 t4 t5 t6 t7 t8
      obtain⟨vr,vs,vf,vc,vt,vk,hx4,hr4⟩:=HN4'.out
      obtain⟨N,hN⟩ : ∃ N,runN n (l.take k)=N:=⟨_,rfl⟩
      have HNN:Hid (runN n (l.take k)=N):=hN
      have hok:NetOk n k N:=by
       have:=run_ok n HN4.out.1 HN4.out.2.1 (l.take k) (by rw[List.length_take]; have:=HN4.out.2.2; omega)
       rw[hN,List.length_take,Nat.min_eq_left (Nat.le_of_lt HKL.out)] at this
       exact this
      have HOK:Hid (NetOk n k N∧k≤300):=⟨hok,by have:=HN4.out.2.2; have:=HKL.out; omega⟩
      obtain⟨ak,ck,rfl⟩:=own_form hr4.k
      rw[hN] at hr4 HN4'
      have HX4:Hid (Box w4 B 87 _):=hx4
      have hvk:(N.codes.length)=(runN n (l.take k)).codes.length:=by rw[hN]
      rw[← hvk] at hx4
      have HC5:Hid (w4.cell? ⟨B,5,none⟩=some (.slice ak N.codes.length ck)):=hx4.cell 5 _ rfl
      obtain⟨lb,hlb⟩ : ∃ lb,wr.heap.size=lb:=⟨_,rfl⟩
      have HOF:Hid (Off 87 w4 B lb):=by rw[← hlb]; exact net_off HN.out (Nat.le_refl _) HB4.out B4.out.lt
      rw[hlb] at B4
      clear hx4 hr4 hN hok hvk HX4
      refine wp_region_plan [0,0,0,0,0,0,0,0,1,1,1,2,2,2,2] (.free 0 (.line 1 (.done 2))) (by kernel_rfl) (by kernel_rfl) (fun h=>h) (fun V=>V.cell? ⟨B,5,none⟩=some (.slice ak N.codes.length ck)∧Box V lb 40 [.int .i64 A.kind, .int .i64 A.c, .int .i64 A.r, .int .i64 A.k, .int .i64 A.n, .int .i64 A.op.kind, .int .i64 A.op.place, .int .i64 A.op.snap, .string ⟨A.op.data.toArray⟩]) ⟨HC5.out,B4.out⟩ (fun V n hV=>hV) fun n7 => ?_
      refine wpPlan_free (by kernel_rfl) ?_
      apply Exists.intro
      refine⟨?_, ?_⟩
      ·intro V hV
       have x5:=hV.1
       have by' := hV.2
       try rw[hlb]
       obtain⟨y0,y1,y2,y3,y4,y5,y6,y7,y8⟩:=by'.c9
       simp only[sel,↓reduceIte,Nat.reduceEqDiff]
       repeat (go_big_quiet_step (fail))
       refine wpQuiet_nil ?_
       rfl
      intro n8
      refine wpPlan_line ?_
      simp only[sel,↓reduceIte,Nat.reduceEqDiff]
      refine wpEarly_cons ?_
      obtain⟨w5,hw5⟩ : ∃ w5,w5=(w4.drewN n7).drewN n8:=⟨_,rfl⟩
      have HB5:Hid (Below w4.heap.size w4 w5):=by rw[hw5]; exact below_drewN _ (below_drewN _ (Below.refl _ _))
      rw[← hw5]
      clear hw5
      have HN5:Hid (NetAt w5 B B N):=HN4'.out.below HB5.out
      have HOF5:Hid (Off 87 w5 B lb):=(Goes.net HN4'.out (Nat.le_trans HBW.out HB4.out.size) HB5.out).leaves _ HOF.out |>.1
      have B5:Hid (Box w5 lb 40 [.int .i64 A.kind, .int .i64 A.c, .int .i64 A.r, .int .i64 A.k, .int .i64 A.n, .int .i64 A.op.kind, .int .i64 A.op.place, .int .i64 A.op.snap, .string ⟨A.op.data.toArray⟩]):=B4.out.below HB5.out B4.out.lt
      have HC55:Hid (w5.cell? ⟨B,5,none⟩=some (.slice ak N.codes.length ck)):=(HB5.out.cell (p:=⟨B,5,none⟩) (lt_of_cell HC5.out)).trans HC5.out
      have HDO:Hid (Calls Tryz.prog 24 #[.pointer (some ⟨B,0,none⟩), .agg #[.int .i64 A.kind, .int .i64 A.c, .int .i64 A.r, .int .i64 A.k, .int .i64 A.n, .int .i64 A.op.kind, .int .i64 A.op.place, .int .i64 A.op.snap, .string ⟨A.op.data.toArray⟩]] w5 fun e w' => e = .returned (.int .i64 (actP N A).1)∧NetAt w' B B (actP N A).2∧Goes w5 w' B B):=do_any B B n k N A w5 HN5.out HOK.out.1 (by have:=HOK.out.2; omega) (Nat.le_trans HBW.out (Nat.le_trans HB4.out.size HB5.out.size)) (Nat.le_refl _) HDL.out
      go_wp2_with fail
      refine HDO.out.mono ?_
      rintro e w6 ⟨rfl,hn6,hg6⟩
      have HG6:Hid (Goes w5 w6 B B):=hg6
      have HN6:Hid (NetAt w6 B B (actP N A).2):=hn6
      have B6:Hid (Box w6 lb 40 [.int .i64 A.kind, .int .i64 A.c, .int .i64 A.r, .int .i64 A.k, .int .i64 A.n, .int .i64 A.op.kind, .int .i64 A.op.place, .int .i64 A.op.snap, .string ⟨A.op.data.toArray⟩]):=hg6.box B5.out HOF5.out
      have HC6:Hid (w6.cell? ⟨B,5,none⟩=some (.slice ak N.codes.length ck)):=hg6.code.trans HC55.out
      clear hn6 hg6 HDO
      go_wp2_with fail
      refine wpEarly_next ⟨HC6.out,B6.out⟩ fun m6 => ?_
      refine wpEarly_cons ?_
      obtain⟨w7,hw7⟩ : ∃ w7,w7=w6.drewN m6:=⟨_,rfl⟩
      have HB7:Hid (Below w6.heap.size w6 w7):=by rw[hw7]; exact below_drewN _ (Below.refl _ _)
      rw[← hw7]
      clear hw7
      go_wp2_with fail
      have b8:=Box.new w7 33 [.int .i64 (actP N A).1]
      obtain⟨w8,hw8⟩ : ∃ w8,w8=w7.alloc (.cells #[.int .i64 (actP N A).1] 33):=⟨_,rfl⟩
      have hb8:Below w7.heap.size w7 w8:=by rw[hw8]; exact below_alloc _ _
      rw[← hw8] at b8 ⊢
      have HB8:Hid (Below w6.heap.size w6 w8):=Below.far HB7.out hb8
      have B8:Hid (Box w8 w7.heap.size 33 [.int .i64 (actP N A).1]):=b8
      have HN8:Hid (NetAt w8 B B (actP N A).2):=HN6.out.below HB8.out
      have HC8:Hid (w8.cell? ⟨B,5,none⟩=some (.slice ak N.codes.length ck)):=(HB8.out.cell (p:=⟨B,5,none⟩) (lt_of_cell HC6.out)).trans HC6.out
      have BA8:Hid (Box w8 lb 40 [.int .i64 A.kind, .int .i64 A.c, .int .i64 A.r, .int .i64 A.k, .int .i64 A.n, .int .i64 A.op.kind, .int .i64 A.op.place, .int .i64 A.op.snap, .string ⟨A.op.data.toArray⟩]):=B6.out.below HB8.out B6.out.lt
      clear hw8 hb8 b8
      obtain⟨nb,hnb⟩ : ∃ nb,w7.heap.size=nb:=⟨_,rfl⟩
      rw[hnb] at B8 ⊢
      clear hnb
      refine wpEarly_next ⟨HC8.out,BA8.out⟩ fun m8 => ?_
      refine wpEarly_cons ?_
      obtain⟨w9,hw9⟩ : ∃ w9,w9=w8.drewN m8:=⟨_,rfl⟩
      have HN9:Hid (NetAt w9 B B (actP N A).2):=by rw[hw9]; exact HN8.out.below (below_drewN _ (Below.refl _ _))
      have HC9:Hid (w9.cell? ⟨B,5,none⟩=some (.slice ak N.codes.length ck)):=by rw[hw9]; exact HC8.out
      have BA9:Hid (Box w9 lb 40 [.int .i64 A.kind, .int .i64 A.c, .int .i64 A.r, .int .i64 A.k, .int .i64 A.n, .int .i64 A.op.kind, .int .i64 A.op.place, .int .i64 A.op.snap, .string ⟨A.op.data.toArray⟩]):=by rw[hw9]; exact BA8.out
      have B9:Hid (Box w9 nb 33 [.int .i64 (actP N A).1]):=by rw[hw9]; exact B8.out
      have HBW9:Hid (Below B w5 w9):=by rw[hw9]; exact (HG6.out.below.trans (HB8.out.mono (Nat.le_trans (Nat.le_trans HBW.out (Nat.le_trans HB4.out.size HB5.out.size)) HG6.out.below.size))).trans (below_drewN _ (Below.refl _ _))
      rw[← hw9]
      clear hw9 HN8 HC8 BA8 B8
      obtain⟨vrX,vsX,vfX,vcX,vtX,vkX,hxX,hrX⟩:=HN9.out
      have hvX:vkX = .slice ak N.codes.length ck:=by
       have q:=hxX.cell 5 _ rfl
       rw[HC9.out] at q
       simpa using q.symm
      subst hvX
      have HXX:Hid (Box w9 B 87 [vrX,vsX,vfX,vcX,vtX, .slice ak N.codes.length ck]):=hxX
      have HRX:Hid (NetRows w9 B (actP N A).2 vrX vsX vfX vcX vtX (.slice ak N.codes.length ck)):=hrX
      have HKX:Hid (w9.ownsRow B 33 1 (.slice ak N.codes.length ck) N.codes.length (N.codes.map encI)):=by
       have:=hrX.k
       unfold RowsK at this
       rw[actP_codes] at this
       exact this
      have HBH:Hid (B≤w9.heap.size):=Nat.le_trans (Nat.le_trans HBW.out (Nat.le_trans HB4.out.size HB5.out.size)) HBW9.out.size
      clear hxX hrX
      go_wp2_with (at_builtin; refine wpList_append_row _ rfl _ _ 30 rfl B 33 Tryz.t33 _ 1 8 Tryz.underlying30 infoErr zeroErr sizeErr bytesErr rfl (by decide) _ N.codes.length (N.codes.map encI) rfl HKX.out _ 1 [.int .i64 (actP N A).1] rfl (rowAt_box B9.out 1 1 rfl) (by simp[Value.oneCell']) (by have:=HOK.out.1.codes; have:=HOK.out.2; unfold maxLen; omega) (by have:=HOK.out.1.codes; have:=HOK.out.2; omega) HBH.out ?_)
      intro vA wA hown hgr hat
      obtain⟨aA,cA,rfl⟩:=own_form hown
      have HXA:Hid (Box wA B 87 [vrX,vsX,vfX,vcX,vtX, .slice ak N.codes.length ck]):=HXX.out.grown hgr (own_type HKX.out HXX.out (by decide))
      have BAA:Hid (Box wA lb 40 [.int .i64 A.kind, .int .i64 A.c, .int .i64 A.r, .int .i64 A.k, .int .i64 A.n, .int .i64 A.op.kind, .int .i64 A.op.place, .int .i64 A.op.snap, .string ⟨A.op.data.toArray⟩]):=BA9.out.grown hgr (own_type HKX.out BA9.out (by decide))
      have HOW:Hid (wA.ownsRow B 33 1 (.slice aA (N.codes.length+1) cA) (N.codes.length+1) (N.codes.map encI ++ [.int .i64 (actP N A).1])):=hown
      have HGR:Hid (w9.grownBy wA (Value.slice ak N.codes.length ck).ownBlock):=hgr
      clear hown hgr hat
      go_wp2_with fail
      refine wpEarly_next ⟨HXA.out.cell 5 _ rfl,BAA.out⟩ fun mA => ?_
      refine wpEarly_nil ?_
      refine wpPlan_done ?_
      simp only[sel,↓reduceIte,Nat.reduceEqDiff]
      have bx:=HXA.out
      have x5:=bx.cell 5 _ rfl
      have f5:=bx.frozen 5
      clear bx
      have HEE:Hid (NetAt ((wA.drewN mA).setCell ⟨B,5,none⟩ (.slice aA (N.codes.length+1) cA)) B B (runN n (l.take (k+1)))∧Below B w0 ((wA.drewN mA).setCell ⟨B,5,none⟩ (.slice aA (N.codes.length+1) cA))):=by
       have q:=HRX.out.codeMore (wB:=wA.drewN mA) (c:=(actP N A).1) HXX.out HBH.out (Nat.le_refl _) (by rw[actP_codes]; exact own_drewN mA HOW.out) ⟨HGR.out.os,HGR.out.tape,HGR.out.output,HGR.out.size,HGR.out.block⟩
       have e:runN n (l.take (k+1))=coded ((actP N A).1,(actP N A).2):=by
        rw[runN_next n l k HKL.out,HNN.out,HA.out]
        rfl
       rw[e]
       exact⟨q.1,(((HB.out.trans (HB4.out.mono HBW.out)).trans (HB5.out.mono (Nat.le_trans HBW.out HB4.out.size))).trans HBW9.out).trans q.2⟩
      clear HXA BAA HOW HGR HXX HRX HKX HBW9 B9 BA9 HC9 HN9
      go_wp2_with fail
      go_roundw
      case rel=>exact⟨k+1,by have:=HKL.out; omega,by go_num,HEE.out⟩
      case measure=>simp[intOf]; have:=HKL.out; omega
     ·have hke:k=l.length:=by have:=HK.out; omega
      subst hke
      have k1 : ¬ (l.length:Int) < (l.length:Int):=by omega
      obtain⟨vr,vs,vf,vc,vt,vk,hx4,hr4⟩:=HN.out
      obtain⟨a1,c1,rfl⟩:=hr4.r.form
      obtain⟨a2,c2,rfl⟩:=hr4.s.form
      obtain⟨a3,c3,rfl⟩:=hr4.f.form
      obtain⟨a4,c4,rfl⟩:=own_formN hr4.c
      obtain⟨a5,c5,rfl⟩:=own_formN hr4.t
      obtain⟨a6,c6,rfl⟩:=own_form hr4.k
      rw[List.take_length] at hr4 hx4
      have HR4:Hid (NetRows wr B (runN n l) _ _ _ _ _ _):=hr4
      have H04:Hid (Box wr w.heap.size 32 [.slice none 0 0, .slice none 0 0, .slice none 0 0, .slice none 0 0, .slice none 0 0, .slice none 0 0]):=H0.out.below HB.out HBB.out
      obtain⟨z1,hz1⟩ : ∃ z,(runN n l).repls.length=z:=⟨_,rfl⟩
      obtain⟨z2,hz2⟩ : ∃ z,(runN n l).slots.length=z:=⟨_,rfl⟩
      obtain⟨z3,hz3⟩ : ∃ z,(runN n l).flying.length=z:=⟨_,rfl⟩
      obtain⟨z4,hz4⟩ : ∃ z,(runN n l).custs.length=z:=⟨_,rfl⟩
      obtain⟨z5,hz5⟩ : ∃ z,(runN n l).told.length=z:=⟨_,rfl⟩
      obtain⟨z6,hz6⟩ : ∃ z,(runN n l).codes.length=z:=⟨_,rfl⟩
      rw[hz1,hz2,hz3,hz4,hz5,hz6] at HR4 hx4
      clear hz1 hz2 hz3 hz4 hz5 hz6 hr4
      have h0:=H04.out
      obtain⟨x0,x1,x2,x3,x4,x5⟩:=hx4.c6
      obtain⟨y0,y1,y2,y3,y4,y5⟩:=h0.c6
      obtain⟨f0,f1,f2,f3,f4,f5⟩:=h0.z6
      have H5:Hid (Box (setAll wr w.heap.size 0 [.slice a1 z1 c1, .slice a2 z2 c2, .slice a3 z3 c3, .slice a4 z4 c4, .slice a5 z5 c5, .slice a6 z6 c6]) w.heap.size 32 [.slice a1 z1 c1, .slice a2 z2 c2, .slice a3 z3 c3, .slice a4 z4 c4, .slice a5 z5 c5, .slice a6 z6 c6]∧Below w.heap.size w (setAll wr w.heap.size 0 [.slice a1 z1 c1, .slice a2 z2 c2, .slice a3 z3 c3, .slice a4 z4 c4, .slice a5 z5 c5, .slice a6 z6 c6])∧NetRows (setAll wr w.heap.size 0 [.slice a1 z1 c1, .slice a2 z2 c2, .slice a3 z3 c3, .slice a4 z4 c4, .slice a5 z5 c5, .slice a6 z6 c6]) w.heap.size (runN n l) (.slice a1 z1 c1) (.slice a2 z2 c2) (.slice a3 z3 c3) (.slice a4 z4 c4) (.slice a5 z5 c5) (.slice a6 z6 c6)):=by
       refine⟨setAll_box h0 _ rfl, ?_, ?_⟩
       ·have q:=setAll_beside_up (b:=w.heap.size) (Nat.le_refl _) [.slice a1 z1 c1, .slice a2 z2 c2, .slice a3 z3 c3, .slice a4 z4 c4, .slice a5 z5 c5, .slice a6 z6 c6] w wr 0 (Beside.of HW.out)
        exact q.below (Nat.le_refl _) (Nat.le_refl _)
       ·exact (HR4.out.base (Nat.le_of_lt HBB.out)).stay (Stay.boxAll h0 0 [.slice a1 z1 c1, .slice a2 z2 c2, .slice a3 z3 c3, .slice a4 z4 c4, .slice a5 z5 c5, .slice a6 z6 c6]) (by decide)
      obtain⟨w5,hw5⟩ : ∃ w5,w5=setAll wr w.heap.size 0 [.slice a1 z1 c1, .slice a2 z2 c2, .slice a3 z3 c3, .slice a4 z4 c4, .slice a5 z5 c5, .slice a6 z6 c6]:=⟨_,rfl⟩
      rw[← hw5] at H5
      simp only[setAll] at hw5
      clear h0 hx4 HR4 HN H04
      go_wp2_with fail
      rw[← hw5]
      clear hw5 x0 x1 x2 x3 x4 x5 y0 y1 y2 y3 y4 y5 f0 f1 f2 f3 f4 f5
      have h0:=H5.out.1
      obtain⟨y0,y1,y2,y3,y4,y5⟩:=h0.c6
      clear h0
      exact bodyPost_ret (v := .tuple #[.agg #[.slice a1 z1 c1, .slice a2 z2 c2, .slice a3 z3 c3, .slice a4 z4 c4, .slice a5 z5 c5, .slice a6 z6 c6], .int .i64 0]) (by clear H5 HE2 HE HO HAT HB0 H0 HS0 HB HW HBW HBB HB0S HN4 HK HN1; simp[results,Tryz.results9,go_sem, *]) rfl ⟨_,by rw[HE2.out.1],by rw[HE2.out.2]; exact⟨_,_,_,_,_,_,rfl,H5.out.2.2⟩,H5.out.2.1⟩

end Go.Proofs.YtmdgkjbiicaljahGreatDoor

/- The walks of the laws' own small functions: picked and Op. -/
namespace Go.Proofs.YtmdgkjbiicaljahGreatDoor
open Go.RowKit
attribute [local go_sem] app_list ext_list get_list byteAt_zero

theorem pick_neg (n m : Int) (h : n < 0) : -(n + 1).tmod m = pickN n m := by
  rw [pickN, if_pos h, ← Int.neg_tmod, Int.tmod_eq_emod_of_nonneg (by omega)]
theorem pick_pos (n m : Int) (h : 0 ≤ n) : n % m = pickN n m := by
  rw [pickN, if_neg (by omega)]

set_option maxHeartbeats 400000 in
theorem picked_any (n m : Int) (w : World) (h0 : -9223372036854775808 ≤ n) (h1 : n ≤ 9223372036854775807) (h2 : 0 < m) (h3 : m ≤ 1073741824) :
    Calls Tryz.prog 11 #[.int .i64 n, .int .i64 m] w fun e w' => e = .returned (.int .i64 (pickN n m)) ∧ w' = w := by
  by_cases h : n < 0
  · have hz : (m == 0) = false := by simp; omega
    go_enter Tryz.func11, Tryz.ntmps11
    go_wp2
    go_ret
    exact ⟨ret_eq (congrArg (Value.int .i64) (pick_neg n m h)), rfl⟩
  · have hz : (m == 0) = false := by simp; omega
    go_enter Tryz.func11, Tryz.ntmps11
    go_wp2
    go_ret
    exact ⟨ret_eq (congrArg (Value.int .i64) (pick_pos n m (by omega))), rfl⟩

/-- The library's table of powers of ten lies there. -/
def Tab (w : World) : Prop := Lib.TabIs Tryz.prog w "internal/strconv.uint64pow10" .u64 Lib.pow10Tab
theorem Tab.below {w w' : World} (h : Tab w) (hb : Below w.heap.size w w') : Tab w' := Lib.tabBelow_of_tabIs h w' hb

theorem below_grow (w : World) (k : Nat) (os : Array Obj) : Below w.heap.size w (Sort.grow (w.drewN k) os) :=
  ⟨rfl, rfl, rfl, by simp [Sort.grow], fun i hi => by
    show (w.heap ++ os)[i]? = _
    rw [Array.getElem?_append_left hi]⟩

theorem itoa_any (n : Int) (w : World) (h0 : 0 ≤ n) (h1 : n < 1000) (ht : Tab w) :
    Calls Tryz.prog 34 #[.int .i64 n] w fun e w' => e = .returned (.string ⟨(Lib.itoa n).toArray⟩) ∧ Below w.heap.size w w' :=
  (Tryz.strconv_Itoa n (by omega) (by omega) w ht).mono fun e w' ⟨he, k, os, hw⟩ => ⟨he, by rw [hw]; exact below_grow w k os⟩

def rawCells (r : RawM) : List Value := [.int .i64 r.kind, .int .i64 r.a, .int .i64 r.b, .int .i64 r.c]
structure RawIn (r : RawM) : Prop where
  k0 : -9223372036854775808 ≤ r.kind
  k1 : r.kind ≤ 9223372036854775807
  a0 : -9223372036854775808 ≤ r.a
  a1 : r.a ≤ 9223372036854775807
  b0 : -9223372036854775808 ≤ r.b
  b1 : r.b ≤ 9223372036854775807
  c0 : -9223372036854775808 ≤ r.c
  c1 : r.c ≤ 9223372036854775807

set_option maxHeartbeats 2000000 in
theorem keepOp_write (r : RawM) (w : World) (hr : RawIn r) (ht : Tab w) (h5 : pickN r.kind 12 < 5) :
    Calls Tryz.prog 22 #[.agg (rawCells r).toArray] w fun e w' => e = .returned (.agg #[.int .i64 (opOf r).kind, .int .i64 (opOf r).place, .int .i64 (opOf r).snap, .string ⟨(opOf r).data.toArray⟩]) ∧ Below w.heap.size w w' := by
  obtain ⟨k, a, b, c⟩ := r
  simp only at *
  unfold rawCells
  have r0 := hr.k0
  have r1 := hr.k1
  have r2 := hr.a0
  have r3 := hr.a1
  have r4 := hr.b0
  have r5 := hr.b1
  simp only at r0 r1 r2 r3 r4 r5
  have ho : opOf ⟨k, a, b, c⟩ = ⟨1, pickN a 6, 0, 119 :: Go.Lib.itoa (pickN b 1000)⟩ := by unfold opOf; simp only; rw [if_pos h5]
  rw [ho]
  clear ho
  have HC := pickN_bd b 1000 (by omega)
  have hlen := itoa_len _ HC.1 HC.2
  have ht2 : Hid (∀ o1 o2, Tab ((w.alloc o1).alloc o2).drew) := fun o1 o2 => (ht.below (below_alloc2 w o1 o2)).below ((Below.refl _ _).drew)
  have HBX : Hid (∀ o1, Box ((w.alloc o1).alloc (.cells #[.int .i64 0, .int .i64 0, .int .i64 0, .string ⟨#[]⟩] 38)) (w.heap.size + 1) 38 [.int .i64 0, .int .i64 0, .int .i64 0, .string ⟨#[]⟩]) := fun o1 => by
    have := Box.new (w.alloc o1) 38 [.int .i64 0, .int .i64 0, .int .i64 0, .string ⟨#[]⟩]
    simpa using this
  go_enter Tryz.func22, Tryz.ntmps22
  go_wp2_with fail
  refine (picked_any _ _ _ r0 r1 (by omega) (by omega)).mono ?_
  rintro e w1 ⟨rfl, rfl⟩
  go_wp2_with fail
  go_region_with (first
    | (go_at_call 11
       refine (picked_any _ _ _ (by omega) (by omega) (by omega) (by omega)).mono ?_
       rintro e w1 ⟨rfl, rfl⟩)
    | (go_at_call 34
       refine (itoa_any _ _ HC.1 HC.2 (ht2.out _ _)).mono ?_
       rintro e w1 ⟨rfl, hb1⟩
       have hb2 := undrew hb1
       have B1 := (HBX.out _).below hb2 (by simp)
       obtain ⟨c0, c1, c2, c3⟩ := B1.c4
       obtain ⟨f0, f1, f2⟩ := B1.z3
       have f3 := B1.frozen 3))
  all_goals
    have HD : Hid (Below _ _ _) := (((((below_alloc2 w _ _).trans (hb2.mono (by simp <;> omega))).setCell (p := ⟨w.heap.size + 1, 0, none⟩) (by simp) (.int .i64 1)).setCell (p := ⟨w.heap.size + 1, 1, none⟩) (by simp) (.int .i64 (pickN a 6))).setCell (p := ⟨w.heap.size + 1, 2, none⟩) (by simp) (.int .i64 0)).setCell (p := ⟨w.heap.size + 1, 3, none⟩) (by simp) (.string ⟨(119 :: Lib.itoa (pickN b 1000)).toArray⟩)
    clear hb1 hb2 B1 HBX ht2
    go_wp2_with fail
    refine bodyPost_ret (v := .agg #[.int .i64 1, .int .i64 (pickN a 6), .int .i64 0, .string ⟨(119 :: Lib.itoa (pickN b 1000)).toArray⟩]) ?_ rfl ?_
    · clear HD
      simp [results, Tryz.results22, go_sem, *]
    · exact ⟨rfl, HD.out⟩

set_option maxHeartbeats 1000000 in
theorem keepOp_trim (r : RawM) (w : World) (hr : RawIn r) (ht : Tab w) (h6 : pickN r.kind 12 = 5) :
    Calls Tryz.prog 22 #[.agg (rawCells r).toArray] w fun e w' => e = .returned (.agg #[.int .i64 (opOf r).kind, .int .i64 (opOf r).place, .int .i64 (opOf r).snap, .string ⟨(opOf r).data.toArray⟩]) ∧ Below w.heap.size w w' := by
  obtain ⟨k, a, b, c⟩ := r
  simp only at *
  unfold rawCells
  have r0 := hr.k0
  have r1 := hr.k1
  have r2 := hr.a0
  have r3 := hr.a1
  have r4 := hr.b0
  have r5 := hr.b1
  simp only at r0 r1 r2 r3 r4 r5
  have ho : opOf ⟨k, a, b, c⟩ = ⟨2, pickN a 6, 0, []⟩ := by unfold opOf; simp only; rw [if_neg (by omega), if_pos h6]
  rw [ho]
  clear ho
  have q5 : (pickN k 12 == 5) = true := by simpa using h6
  have h5 : ¬ pickN k 12 < 5 := by omega
  clear h6
  go_enter Tryz.func22, Tryz.ntmps22
  go_wp2_with fail
  refine (picked_any _ _ _ r0 r1 (by omega) (by omega)).mono ?_
  rintro e w1 ⟨rfl, rfl⟩
  go_wp2_with fail
  refine (picked_any _ _ _ r2 r3 (by omega) (by omega)).mono ?_
  rintro e w1 ⟨rfl, rfl⟩
  go_wp2_with fail
  refine bodyPost_ret (v := .agg #[.int .i64 2, .int .i64 (pickN a 6), .int .i64 0, .string ⟨#[]⟩]) ?_ rfl ?_
  · simp [results, Tryz.results22, go_sem]
  · exact ⟨rfl, below_alloc2 _ _ _⟩

set_option maxHeartbeats 1000000 in
theorem keepOp_snap (r : RawM) (w : World) (hr : RawIn r) (ht : Tab w) (h7 : pickN r.kind 12 = 6) :
    Calls Tryz.prog 22 #[.agg (rawCells r).toArray] w fun e w' => e = .returned (.agg #[.int .i64 (opOf r).kind, .int .i64 (opOf r).place, .int .i64 (opOf r).snap, .string ⟨(opOf r).data.toArray⟩]) ∧ Below w.heap.size w w' := by
  obtain ⟨k, a, b, c⟩ := r
  simp only at *
  unfold rawCells
  have r0 := hr.k0
  have r1 := hr.k1
  have r2 := hr.a0
  have r3 := hr.a1
  have r4 := hr.b0
  have r5 := hr.b1
  simp only at r0 r1 r2 r3 r4 r5
  have ho : opOf ⟨k, a, b, c⟩ = ⟨4, 0, 0, []⟩ := by unfold opOf; simp only; rw [if_neg (by omega), if_neg (by omega), if_pos h7]
  rw [ho]
  clear ho
  have q5 : (pickN k 12 == 5) = false := by simp; omega
  have q6 : (pickN k 12 == 6) = true := by simpa using h7
  have h5 : ¬ pickN k 12 < 5 := by omega
  clear h7
  go_enter Tryz.func22, Tryz.ntmps22
  go_wp2_with fail
  refine (picked_any _ _ _ r0 r1 (by omega) (by omega)).mono ?_
  rintro e w1 ⟨rfl, rfl⟩
  go_wp2_with fail
  refine bodyPost_ret (v := .agg #[.int .i64 4, .int .i64 0, .int .i64 0, .string ⟨#[]⟩]) ?_ rfl ?_
  · simp [results, Tryz.results22, go_sem]
  · exact ⟨rfl, below_alloc2 _ _ _⟩

set_option maxHeartbeats 1000000 in
theorem keepOp_read (r : RawM) (w : World) (hr : RawIn r) (ht : Tab w) (h8 : 6 < pickN r.kind 12) :
    Calls Tryz.prog 22 #[.agg (rawCells r).toArray] w fun e w' => e = .returned (.agg #[.int .i64 (opOf r).kind, .int .i64 (opOf r).place, .int .i64 (opOf r).snap, .string ⟨(opOf r).data.toArray⟩]) ∧ Below w.heap.size w w' := by
  obtain ⟨k, a, b, c⟩ := r
  simp only at *
  unfold rawCells
  have r0 := hr.k0
  have r1 := hr.k1
  have r2 := hr.a0
  have r3 := hr.a1
  have r4 := hr.b0
  have r5 := hr.b1
  simp only at r0 r1 r2 r3 r4 r5
  have ho : opOf ⟨k, a, b, c⟩ = ⟨3, pickN a 6, max 0 (pickN b 6 - 2), []⟩ := by unfold opOf; simp only; rw [if_neg (by omega), if_neg (by omega), if_neg (by omega)]
  rw [ho]
  clear ho
  have q5 : (pickN k 12 == 5) = false := by simp; omega
  have q6 : (pickN k 12 == 6) = false := by simp; omega
  have h5 : ¬ pickN k 12 < 5 := by omega
  have HB := pickN_bd b 6 (by omega)
  clear h8
  go_enter Tryz.func22, Tryz.ntmps22
  go_wp2_with fail
  refine (picked_any _ _ _ r0 r1 (by omega) (by omega)).mono ?_
  rintro e w1 ⟨rfl, rfl⟩
  go_wp2_with fail
  go_region_with (first
    | (go_at_call 11
       refine (picked_any _ _ _ (by omega) (by omega) (by omega) (by omega)).mono ?_
       rintro e w1 ⟨rfl, rfl⟩))
  all_goals go_wp2_with fail
  all_goals
    have hw : IntKind.i64.wrap (pickN b 6 - 2) = pickN b 6 - 2 := IntWalk.i64_in _ ⟨by omega, by omega⟩
    rw [hw]
    refine bodyPost_ret (v := .agg #[.int .i64 3, .int .i64 (pickN a 6), .int .i64 (max 0 (pickN b 6 - 2)), .string ⟨#[]⟩]) ?_ rfl ?_
    · simp [results, Tryz.results22, go_sem]
    · exact ⟨rfl, (below_alloc2 _ _ _).drew⟩

theorem keepOp_any (r : RawM) (w : World) (hr : RawIn r) (ht : Tab w) :
    Calls Tryz.prog 22 #[.agg (rawCells r).toArray] w fun e w' => e = .returned (.agg #[.int .i64 (opOf r).kind, .int .i64 (opOf r).place, .int .i64 (opOf r).snap, .string ⟨(opOf r).data.toArray⟩]) ∧ Below w.heap.size w w' := by
  have hk := pickN_bd r.kind 12 (by omega)
  by_cases h1 : pickN r.kind 12 < 5
  · exact keepOp_write r w hr ht h1
  · by_cases h2 : pickN r.kind 12 = 5
    · exact keepOp_trim r w hr ht h2
    · by_cases h3 : pickN r.kind 12 = 6
      · exact keepOp_snap r w hr ht h3
      · exact keepOp_read r w hr ht (by omega)

end Go.Proofs.YtmdgkjbiicaljahGreatDoor

/- Raw things in memory. -/
namespace Go.Proofs.YtmdgkjbiicaljahGreatDoor
open Go.RowKit

/-- A slice of raw things. -/
def Raws (w : World) (v : Value) (l : List RawM) : Prop :=
 ∃ a cap,v = .slice a l.length cap∧l.length≤140737488355328 ∧ ∀ i,i < l.length → ∃ b o,a=some ⟨b,o,none⟩∧RawIn (l.getD i ⟨0,0,0,0⟩) ∧
  w.cell? ⟨b,o+i * 4,none⟩=some (.int .i64 (l.getD i ⟨0,0,0,0⟩).kind)∧w.cell? ⟨b,o+i * 4+1,none⟩=some (.int .i64 (l.getD i ⟨0,0,0,0⟩).a) ∧
  w.cell? ⟨b,o+i * 4+2,none⟩=some (.int .i64 (l.getD i ⟨0,0,0,0⟩).b)∧w.cell? ⟨b,o+i * 4+3,none⟩=some (.int .i64 (l.getD i ⟨0,0,0,0⟩).c)

theorem Raws.below {w w' : World} {v : Value} {l : List RawM} (h : Raws w v l) (hb : Below w.heap.size w w') : Raws w' v l := by
 obtain⟨a,cap,hv,hl,hc⟩:=h
 refine⟨a,cap,hv,hl,fun i hi => ?_⟩
 obtain⟨b,o,ha,hr,c0,c1,c2,c3⟩:=hc i hi
 have lt:=lt_of_cell c0
 exact⟨b,o,ha,hr,(hb.cell (p:=⟨b,_,none⟩) lt).trans c0,(hb.cell (p:=⟨b,_,none⟩) lt).trans c1,(hb.cell (p:=⟨b,_,none⟩) lt).trans c2,(hb.cell (p:=⟨b,_,none⟩) lt).trans c3⟩

end Go.Proofs.YtmdgkjbiicaljahGreatDoor

/- The walk of TopTwice. -/
import Derived.Test.YtmdgkjbiicaljaiGreatDoorJointTopEqT
import Derived.Test.YtmdgkjbiicaljaiGreatDoorJointRegPlan
import Derived.Test.YtmdgkjbiicaljaiGreatDoorJointVolMem
import Derived.SizedLaws
import Derived.OpenShut
import Derived.ShutString
import Derived.ChangeOld
import Derived.Deep.Slices
import Derived.Test.YtmdgkjbiicaljaiGreatDoorJointRawMem
import Derived.WalkKit
import Derived.ProofKit
import Derived.Lib.LaidTab
set_option linter.unusedVariables false
set_option linter.unusedSimpArgs false
namespace Go.Proofs.YtmdgkjbiicaljaiGreatDoor
open Go.RowKit

set_option maxRecDepth 4000 in
set_option maxHeartbeats 8000000 in
theorem topTwice_walk (w : World) (l : List RawM) {v : Value} (h : Raws w v l) (ht : Tab w) :
  Calls Tryz.prog 5 #[v] w fun e w' => e = .returned (.bool true)∧Below w.heap.size w w' := by
 have HRN:Hid (∀ W,Below w.heap.size w W→Calls Tryz.prog 6 #[v, .int .i64 280, .slice none 0 0] W _):=fun W hW=>ran_nil 280 (by omega) l v W (h.below hW) (ht.below hW)
 have hok:=run_ok 3 (by omega) (by omega) (actsOf l 280 3) (by have:=(acts_in l 280 3).1; omega)
 have hln:=(acts_in l 280 3).1
 obtain⟨N,hN⟩ : ∃ N,runN 3 (actsOf l 280 3)=N:=⟨_,rfl⟩
 rw[hN] at hok HRN
 have HOK:Hid (NetOk 3 (actsOf l 280 3).length N∧(actsOf l 280 3).length≤280):=⟨hok,hln⟩
 clear hN hok hln
 obtain⟨ax,cx,rfl,hq1,hq2⟩:=h
 clear hq1 hq2
 clear ht
 go_enter Tryz.func5,Tryz.ntmps5
 go_wp2_with fail
 refine (HRN.out w (Below.refl _ _)).mono ?_
 rintro e w1 ⟨z1,d1,z2,d2,z3,n3,d3,z4,d4,z5,n5,d5,z6,n6,d6,va,rfl,hr1,⟨a1,m1,c1,rfl⟩,hb1⟩
 have b1:=Box.new w1 30 [.slice z1 3 d1, .slice z2 3 d2, .slice z3 n3 d3, .slice z4 3 d4, .slice z5 n5 d5, .slice z6 n6 d6]
 obtain⟨w2,hw2⟩ : ∃ w2,w2=w1.alloc (.cells #[.slice z1 3 d1, .slice z2 3 d2, .slice z3 n3 d3, .slice z4 3 d4, .slice z5 n5 d5, .slice z6 n6 d6] 30):=⟨_,rfl⟩
 have hb2:Below w1.heap.size w1 w2:=by rw[hw2]; exact below_alloc _ _
 rw[← hw2] at b1
 have HR2:Hid (NetRows w2 w.heap.size N (.slice z1 3 d1) (.slice z2 3 d2) (.slice z3 n3 d3) (.slice z4 3 d4) (.slice z5 n5 d5) (.slice z6 n6 d6)):=hr1.below hb2
 have HB2:Hid (Below w.heap.size w w2):=Below.far hb1 hb2
 obtain⟨ob,hob⟩ : ∃ ob,w1.heap.size=ob:=⟨_,rfl⟩
 rw[hob] at b1
 have B2:Hid (Box w2 ob 30 [.slice z1 3 d1, .slice z2 3 d2, .slice z3 n3 d3, .slice z4 3 d4, .slice z5 n5 d5, .slice z6 n6 d6]):=b1
 clear hr1 hb1 hb2 b1
 go_upto_region 2 with fail
 rw[← hw2]
 try rw[hob]
 clear hw2 hob
 go_wp2_with fail
 refine (HRN.out w2 HB2.out).mono ?_
 rintro e w3 ⟨y1,e1,y2,e2,y3,k3,e3,y4,e4,y5,k5,e5,y6,k6,e6,va,rfl,hr3,⟨a2,m2,c2,rfl⟩,hb3⟩
 have b3:=Box.new w3 30 [.slice y1 3 e1, .slice y2 3 e2, .slice y3 k3 e3, .slice y4 3 e4, .slice y5 k5 e5, .slice y6 k6 e6]
 obtain⟨w4,hw4⟩ : ∃ w4,w4=w3.alloc (.cells #[.slice y1 3 e1, .slice y2 3 e2, .slice y3 k3 e3, .slice y4 3 e4, .slice y5 k5 e5, .slice y6 k6 e6] 30):=⟨_,rfl⟩
 have hb4:Below w3.heap.size w3 w4:=by rw[hw4]; exact below_alloc _ _
 rw[← hw4] at b3
 have HB24:Hid (Below w2.heap.size w2 w4):=Below.far hb3 hb4
 have HRP:Hid (NetRows w4 w2.heap.size N (.slice y1 3 e1) (.slice y2 3 e2) (.slice y3 k3 e3) (.slice y4 3 e4) (.slice y5 k5 e5) (.slice y6 k6 e6)):=hr3.below hb4
 have HRO:Hid (NetRows w4 w.heap.size N (.slice z1 3 d1) (.slice z2 3 d2) (.slice z3 n3 d3) (.slice z4 3 d4) (.slice z5 n5 d5) (.slice z6 n6 d6)):=HR2.out.below HB24.out
 obtain⟨pb,hpb⟩ : ∃ pb,w3.heap.size=pb:=⟨_,rfl⟩
 rw[hpb] at b3
 have BO:Hid (Box w4 ob 30 [.slice z1 3 d1, .slice z2 3 d2, .slice z3 n3 d3, .slice z4 3 d4, .slice z5 n5 d5, .slice z6 n6 d6]):=B2.out.below HB24.out B2.out.lt
 have BP:Hid (Box w4 pb 30 [.slice y1 3 e1, .slice y2 3 e2, .slice y3 k3 e3, .slice y4 3 e4, .slice y5 k5 e5, .slice y6 k6 e6]):=b3
 have HW4:Hid (Below w.heap.size w w4):=Below.far HB2.out HB24.out
 clear hr3 hb3 hb4 b3 HR2 B2
 go_upto_region 3 with fail
 rw[← hw4]
 try rw[hpb]
 clear hw4 hpb
 refine wp_region_plan [0,0,0,0,0,0,0,0,0,1,2,2,2,2,2,2,3,4,4,4,5,4,6,7,8,8] (.free 0 (.line 1 (.free 2 (.line 3 (.free 4 (.line 5 (.line 6 (.line 7 (.done 8))))))))) (by kernel_rfl) (by kernel_rfl) (fun h=>h) (Below w4.heap.size w4) (Below.refl _ _) (fun V n hV=>below_drewN n hV) fun n0 => ?_
 have HI:Hid (∀ i,i < 3→ReplMay (N.repl i)):=fun i hi=>HOK.out.1.may i hi
 have HL3:Hid (N.repls.length=3):=HOK.out.1.rl
 refine wpPlan_free (by kernel_rfl) ?_
 apply Exists.intro
 refine⟨?_, ?_⟩
 ·intro V hV
  have bq0:=BO.out.below hV BO.out.lt
  obtain⟨x0,x1,x2,x3,x4,x5⟩:=bq0.c6
  have bq1:=BP.out.below hV BP.out.lt
  obtain⟨y0,y1,y2,y3,y4,y5⟩:=bq1.c6
  simp only[sel,↓reduceIte,Nat.reduceEqDiff]
  repeat (go_big_quiet_step (fail))
  refine wpQuiet_nil ?_
  rfl
 intro n1
 obtain⟨w5,hw5⟩ : ∃ w5,w5=((w4.drewN n0).drewN n1):=⟨_,rfl⟩
 have HB5:Hid (Below w4.heap.size w4 w5):=by rw[hw5]; exact (below_drewN _ (below_drewN _ (Below.refl _ _)))
 have hb5:Below w4.heap.size w4 w5:=by rw[hw5]; exact (below_drewN _ (below_drewN _ (Below.refl _ _)))
 rw[← hw5]
 clear hw5
 refine wpPlan_line ?_
 simp only[sel,↓reduceIte,Nat.reduceEqDiff]
 refine wpEarly_cons ?_
 go_wp2_with fail
 refine (equalCodes_same _ _ N.codes _ _ w5 (by have:=HOK.out.1.codes; have:=HOK.out.2; omega) (HRO.out.below HB5.out).k (HRP.out.below HB5.out).k).mono ?_
 rintro e w6 ⟨rfl,hw6⟩
 have HB6:Hid (Below w4.heap.size w4 w6):=Below.far HB5.out hw6
 clear hw6
 go_wp2_with fail
 refine wpEarly_next HB6.out fun m1 => ?_
 refine wpEarly_nil ?_
 refine wpPlan_free (by kernel_rfl) ?_
 apply Exists.intro
 refine⟨?_, ?_⟩
 ·intro V hV
  have bq0:=BO.out.below hV BO.out.lt
  obtain⟨x0,x1,x2,x3,x4,x5⟩:=bq0.c6
  have bq1:=BP.out.below hV BP.out.lt
  obtain⟨y0,y1,y2,y3,y4,y5⟩:=bq1.c6
  simp only[sel,↓reduceIte,Nat.reduceEqDiff]
  repeat (go_big_quiet_step (fail))
  refine wpQuiet_nil ?_
  rfl
 intro n2
 obtain⟨w7,hw7⟩ : ∃ w7,w7=((w6.drewN m1).drewN n2):=⟨_,rfl⟩
 have HB7:Hid (Below w4.heap.size w4 w7):=by rw[hw7]; exact (below_drewN _ (below_drewN _ (HB6.out)))
 have hb7:Below w6.heap.size w6 w7:=by rw[hw7]; exact (below_drewN _ (below_drewN _ (Below.refl _ _)))
 rw[← hw7]
 clear hw7
 clear HB5 HB6
 refine wpPlan_line ?_
 simp only[sel,↓reduceIte,Nat.reduceEqDiff]
 refine wpEarly_cons ?_
 go_wp2_with fail
 refine (equalTold_same _ _ N.told _ _ w7 (by have:=HOK.out.1.told; have:=HOK.out.2; omega) (HRO.out.below HB7.out).t (HRP.out.below HB7.out).t).mono ?_
 rintro e w8 ⟨rfl,hw8⟩
 have HB8:Hid (Below w4.heap.size w4 w8):=Below.far HB7.out hw8
 clear hw8
 go_wp2_with fail
 refine wpEarly_next HB8.out fun m2 => ?_
 refine wpEarly_nil ?_
 refine wpPlan_free (by kernel_rfl) ?_
 apply Exists.intro
 refine⟨?_, ?_⟩
 ·intro V hV
  have bq0:=BO.out.below hV BO.out.lt
  obtain⟨x0,x1,x2,x3,x4,x5⟩:=bq0.c6
  have bq1:=BP.out.below hV BP.out.lt
  obtain⟨y0,y1,y2,y3,y4,y5⟩:=bq1.c6
  simp only[sel,↓reduceIte,Nat.reduceEqDiff]
  repeat (go_big_quiet_step (fail))
  refine wpQuiet_nil ?_
  rfl
 intro n3
 obtain⟨w9,hw9⟩ : ∃ w9,w9=((w8.drewN m2).drewN n3):=⟨_,rfl⟩
 have HB9:Hid (Below w4.heap.size w4 w9):=by rw[hw9]; exact (below_drewN _ (below_drewN _ (HB8.out)))
 have hb9:Below w8.heap.size w8 w9:=by rw[hw9]; exact (below_drewN _ (below_drewN _ (Below.refl _ _)))
 rw[← hw9]
 clear hw9
 clear HB7 HB8
 refine wpPlan_line ?_
 simp only[sel,↓reduceIte,Nat.reduceEqDiff]
 refine wpEarly_cons ?_
 go_wp2_with fail
 refine (committed_any _ N _ _ _ _ _ _ w9 (HRO.out.below HB9.out) HL3.out HI.out).mono ?_
 rintro e w10 ⟨vc1,rfl,hs1,_,hw10⟩
 have HB10:Hid (Below w4.heap.size w4 w10):=Below.far HB9.out hw10
 have HS1:Hid (Strs w10 vc1 (committed N)):=hs1
 clear hw10 hs1
 go_wp2_with fail
 refine wpEarly_next HB10.out fun m3 => ?_
 refine wpEarly_nil ?_
 obtain⟨w11,hw11⟩ : ∃ w11,w11=(w10.drewN m3):=⟨_,rfl⟩
 have HB11:Hid (Below w4.heap.size w4 w11):=by rw[hw11]; exact (below_drewN _ (HB10.out))
 have hb11:Below w10.heap.size w10 w11:=by rw[hw11]; exact (below_drewN _ (Below.refl _ _))
 rw[← hw11]
 clear hw11
 have HS2:Hid (Strs w11 vc1 (committed N)):=HS1.out.below (hb11)
 clear HB9 HB10 HS1
 refine wpPlan_line ?_
 simp only[sel,↓reduceIte,Nat.reduceEqDiff]
 refine wpEarly_cons ?_
 go_wp2_with fail
 refine (committed_any _ N _ _ _ _ _ _ w11 (HRP.out.below HB11.out) HL3.out HI.out).mono ?_
 rintro e w12 ⟨vc2,rfl,hs1,_,hw12⟩
 have HB12:Hid (Below w4.heap.size w4 w12):=Below.far HB11.out hw12
 have HS3:Hid (Strs w12 vc2 (committed N)):=hs1
 have HS4:Hid (Strs w12 vc1 (committed N)):=HS2.out.below hw12
 clear hw12 hs1 HS2
 go_wp2_with fail
 refine wpEarly_next HB12.out fun m4 => ?_
 refine wpEarly_nil ?_
 obtain⟨w13,hw13⟩ : ∃ w13,w13=(w12.drewN m4):=⟨_,rfl⟩
 have HB13:Hid (Below w4.heap.size w4 w13):=by rw[hw13]; exact (below_drewN _ (HB12.out))
 have hb13:Below w12.heap.size w12 w13:=by rw[hw13]; exact (below_drewN _ (Below.refl _ _))
 rw[← hw13]
 clear hw13
 refine wpPlan_line ?_
 simp only[sel,↓reduceIte,Nat.reduceEqDiff]
 refine wpEarly_cons ?_
 go_wp2_with fail
 refine (equalStrs_any (committed N) (committed N) _ _ w13 (HS4.out.below hb13) (HS3.out.below hb13)).mono ?_
 rintro e w14 ⟨rfl,hw14⟩
 have HB14:Hid (Below w4.heap.size w4 w14):=Below.far HB13.out hw14
 clear hw14
 rw[show decide (committed N=committed N)=true from decide_eq_true rfl]
 go_wp2_with fail
 refine wpEarly_next HB14.out fun m5 => ?_
 refine wpEarly_nil ?_
 refine wpPlan_done ?_
 simp only[sel,↓reduceIte,Nat.reduceEqDiff]
 obtain⟨w15,hw15⟩ : ∃ w15,w15=(w14.drewN m5):=⟨_,rfl⟩
 have HB15:Hid (Below w4.heap.size w4 w15):=by rw[hw15]; exact (below_drewN _ (HB14.out))
 have hb15:Below w14.heap.size w14 w15:=by rw[hw15]; exact (below_drewN _ (Below.refl _ _))
 rw[← hw15]
 clear hw15
 go_wp2_with fail
 go_ret
 exact⟨rfl,Below.far HW4.out HB15.out⟩

end Go.Proofs.YtmdgkjbiicaljaiGreatDoor

/- From what a row reads of an argument to how it lies in memory: numbers, bools, strings, structs, slices of any of them. -/
namespace Go.Proofs.YtmdgkjbiicaljaiGreatDoor
open Go.ChangeShapes Go.WideShapes Go.ChangeAt Go.RowKit Go.Deep

section
variable {H:Type} {enc:TypeId × Value→H} {P:Program} {W:World}

/-- Within the form's own reach. -/
def Within (P : Program) (t : TypeId) (d : DataW H) : Prop := ∀ n ∈ d.weights P t,n ≤ 140737488351232

theorem within_of {ts : List TypeId} {ds : List (DataW H)} (h : (DataW.weightsEach P ts ds).all (· ≤ reachBytes) = true) {j : Nat} {t : TypeId} {d : DataW H} (ht : ts[j]? = some t) (hd : ds[j]? = some d) : Within P t d := by
 intro n hn
 have:=List.all_eq_true.1 h _ (DataW.weights_mem_each ht hd n hn)
 have h2:=of_decide_eq_true this
 unfold reachBytes at h2
 exact h2

theorem weights_mem_all {e : TypeId} : ∀ {ds : List (DataW H)} {d : DataW H},d ∈ ds → ∀ n ∈ d.weights P e,n ∈ DataW.weightsAll P e ds
 | d0 :: ds,d,hd,n,hn=>by
  simp only[DataW.weightsAll,List.mem_append]
  rcases List.mem_cons.1 hd with rfl | h
  ·exact Or.inl hn
  ·exact Or.inr (weights_mem_all h n hn)

theorem read_int {t : TypeId} {fuel : Nat} {cs : List Value} {x : DataW H × List MemPlace} (hu : P.underlying t = some (.int .i64)) (h : DataW.trod enc P W 0 (fun _ => true) true fuel t cs = some x) :
  ∃ n:Int,cs = [.int .i64 n] ∧ -9223372036854775808≤n∧n≤9223372036854775807:=by
 obtain⟨n,h1,_,h3⟩:=DataW.trod_int hu h
 exact⟨n,h1,(bounds_i64 h3).1,(bounds_i64 h3).2⟩

/-- A struct: field i reads its own part of the cells, within the reach. -/
theorem read_struct {t : TypeId} {fs : Array Field} {fuel : Nat} {cs : List Value} {x : DataW H × List MemPlace} (hu : P.underlying t = some (.struct fs)) (h : DataW.trod enc P W 0 (fun _ => true) true fuel t cs = some x) (hw : Within P t x.1) :
  cs.length=P.cellsOf t ∧ ∀ (i:Nat) (f:Field),fs[i]? = some f → ∃ n y,DataW.trod enc P W 0 (fun _=>true) true n f.type ((cs.drop f.offset).take (P.cellsOf f.type))=some y∧Within P f.type y.1:=by
 obtain⟨xs,n,_,hx,hl,hlen,hf⟩:=DataW.trod_struct hu h
 refine⟨hl,fun i f hi => ?_⟩
 have hi' : i < fs.size:=(Array.getElem?_eq_some_iff.1 hi).1
 have hxi:xs[i]? = some xs[i]:=List.getElem?_eq_getElem (by omega)
 refine⟨n,xs[i],(hf i f hi).trans hxi,fun m hm=>hw m ?_⟩
 subst hx
 simp only[DataW.weights,hu]
 refine DataW.weights_mem_each (j:=i) (t:=f.type) (d:=xs[i].1) ?_ ?_ m hm
 ·simp[hi]
 ·simp[hxi]

theorem read_slice {α : Type} [Inhabited α] {t e : TypeId} {fuel : Nat} {cs : List Value} {x : DataW H × List MemPlace} (RE : List Value → α → Prop) (hu : P.underlying t = some (.slice e)) (hpos : 0 < P.cellsOf e)
  (hel : ∀ fuel cs x,DataW.trod enc P W 0 (fun _=>true) true fuel e cs=some x→Within P e x.1 → ∃ y,RE cs y)
  (h:DataW.trod enc P W 0 (fun _=>true) true fuel t cs=some x) (hw:Within P t x.1) :
  ∃ (a:Option Addr) (cap:Nat) (l:List α),cs = [.slice a l.length cap]∧l.length * P.bytesOf e≤140737488351232 ∧
   ∀ i,i < l.length → ∃ b o C,a=some ⟨b,o,none⟩∧C.length=P.cellsOf e∧RE C (l.getD i default) ∧ ∀ j u,C[j]? = some u→W.cell? ⟨b,o+i * P.cellsOf e+j,none⟩=some u:=by
 rcases open_slice hu h with ⟨rfl,rfl⟩ | ⟨a,len,cap,m,n,D,Pl,rfl,_,hl,hm,hmm,rfl,hx⟩
 ·exact⟨none,0,[],rfl,by simp,fun i hi=>by simp at hi⟩
 ·have hlm:len≤m:=by rw[hmm]; split <;> omega
  have each : ∀ i,i < len → ∃ y : α,∃ C,W.cells? 0 (a.add (i * P.cellsOf e)) (P.cellsOf e)=some C∧RE C y:=fun i hi=>by
   obtain⟨C,h1,h2⟩:=hx i (by omega)
   obtain⟨y,hy⟩:=hel _ _ _ h2 (fun w' hw' => hw w' (by
    simp only[DataW.weights,hu,List.mem_cons,List.mem_append]
    refine Or.inr (Or.inl (weights_mem_all ?_ w' hw'))
    exact List.mem_map.2 ⟨i,List.mem_range.2 hi,rfl⟩))
   exact⟨y,C,h1,hy⟩
  obtain⟨f,hf⟩:=choose_lt each
  refine⟨some a,cap,(List.range len).map f,by simp, ?_,fun i hi => ?_⟩
  ·have:=hw _ (by simp only[DataW.weights,hu,List.mem_cons]; exact Or.inl rfl)
   simp only[List.length_map,List.length_range] at this ⊢
   exact Nat.le_trans (Nat.mul_le_mul_right _ (by omega)) this
  ·simp only[List.length_map,List.length_range] at hi
   obtain⟨C,h1,h2⟩:=hf i hi
   obtain⟨_,hlen,hc⟩:=World.cells?_some h1
   obtain⟨C0,h10,_⟩:=hf 0 (by omega)
   obtain⟨_,hlen0,hcc0⟩:=World.cells?_some h10
   have hc0:=hcc0 0 hpos
   have:(0:Nat) < C0.length:=by omega
   rw[List.getElem?_eq_getElem this] at hc0
   obtain⟨b,o,sp⟩:=a
   have hs:sp=none:=by simpa [Addr.add] using World.cell?_spot hc0
   subst hs
   refine⟨b,o,C,rfl,hlen,by simpa [List.getD,hi] using h2,fun j u hj => ?_⟩
   have hj' : j < P.cellsOf e:=by have:=(List.getElem?_eq_some_iff.1 hj).1; omega
   have:=hc j hj'
   rw[add_plain,add_plain] at this
   rw[this,hj]
end

end Go.Proofs.YtmdgkjbiicaljaiGreatDoor

/- How lists of raw things are read off an argument; the tables of the library's own packages. -/
namespace Go.Proofs.YtmdgkjbiicaljaiGreatDoor
open Go.ChangeShapes Go.WideShapes Go.ChangeAt Go.RowKit Go.Deep

theorem cellsIntD : Tryz.prog.cellsOf 3 = 1 := by kernel_rfl
theorem cellsRaw : Tryz.prog.cellsOf 68 = 4 := by kernel_rfl
theorem bytesRaw : Tryz.prog.bytesOf 68 = 32 := by kernel_rfl

set_option maxRecDepth 4000 in
theorem read_raw {H : Type} {enc : TypeId × Value → H} {W : World} {fuel : Nat} {cs : List Value} {x : DataW H × List MemPlace}
  (h:DataW.trod enc Tryz.prog W 0 (fun _=>true) true fuel 68 cs=some x) (hw:Within Tryz.prog 68 x.1) : ∃ r:RawM,cs=rawCells r∧RawIn r:=by
 obtain⟨hl,hf⟩:=read_struct Tryz.underlying68 h hw
 rw[cellsRaw] at hl
 match cs,hl with
 | [c0,c1,c2,c3],_ =>
  obtain⟨n0,y0,h0,_⟩:=hf 0 _ rfl
  obtain⟨n1,y1,h1,_⟩:=hf 1 _ rfl
  obtain⟨n2,y2,h2,_⟩:=hf 2 _ rfl
  obtain⟨n3,y3,h3,_⟩:=hf 3 _ rfl
  simp[cellsIntD] at h0 h1 h2 h3
  obtain⟨k,e0,i0⟩:=read_int Tryz.underlying3 h0
  obtain⟨a,e1,i1⟩:=read_int Tryz.underlying3 h1
  obtain⟨b,e2,i2⟩:=read_int Tryz.underlying3 h2
  obtain⟨c,e3,i3⟩:=read_int Tryz.underlying3 h3
  simp at e0 e1 e2 e3
  subst e0 e1 e2 e3
  exact⟨⟨k,a,b,c⟩,rfl,⟨i0.1,i0.2,i1.1,i1.2,i2.1,i2.2,i3.1,i3.2⟩⟩

set_option maxRecDepth 4000 in
theorem read_raws {H : Type} {enc : TypeId × Value → H} {W : World} {fuel : Nat} {v : Value} {x : DataW H × List MemPlace}
  (h:DataW.trod enc Tryz.prog W 0 (fun _=>true) true fuel 22 [v]=some x) (hw:Within Tryz.prog 22 x.1) : ∃ l,Raws W v l:=by
 letI:Inhabited RawM:=⟨⟨0,0,0,0⟩⟩
 obtain⟨a,cap,l,hv,hb,hc⟩:=read_slice (fun C (y:RawM)=>C=rawCells y∧RawIn y) Tryz.underlying22 (by rw[cellsRaw]; decide) (fun fuel cs x h1 h2=>read_raw h1 h2) h hw
 rw[bytesRaw] at hb
 refine⟨l,a,cap,by simpa using hv,by omega,fun i hi => ?_⟩
 obtain⟨b,o,C,ha,_,⟨hC,hr⟩,hcell⟩:=hc i hi
 rw[cellsRaw] at hcell
 subst hC
 exact⟨b,o,ha,hr,hcell 0 _ rfl,hcell 1 _ rfl,hcell 2 _ rfl,hcell 3 _ rfl⟩

theorem gPow : Tryz.prog.globalNamed "internal/strconv.uint64pow10" = some 0 := by kernel_rfl
theorem gPowType : (Tryz.prog.globals[0]?).map (·.type) = some 177 := by kernel_rfl
theorem cellsPow : Tryz.prog.cellsOf 177 = 20 := by kernel_rfl
theorem cellsU64 : Tryz.prog.cellsOf 151 = 1 := by kernel_rfl

def laying (cs : Array Value) : Obj → Obj
 | .cells _ t frozen => .cells cs t frozen
 | o=>o

end Go.Proofs.YtmdgkjbiicaljaiGreatDoor

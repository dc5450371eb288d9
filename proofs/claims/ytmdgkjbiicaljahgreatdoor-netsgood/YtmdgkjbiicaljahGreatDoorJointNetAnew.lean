/- The program's own replica.New. -/
import Derived.Test.YtmdgkjbiicaljahGreatDoorJointCopiedStr
import Derived.Test.YtmdgkjbiicaljahGreatDoorJointKeptDup
import Derived.Test.YtmdgkjbiicaljahGreatDoorJointNetLand
import Derived.Test.YtmdgkjbiicaljahGreatDoorJointBuildGo
set_option linter.unusedVariables false
set_option linter.unusedSimpArgs false
namespace Go.Proofs.YtmdgkjbiicaljahGreatDoor
open Go.RowKit

theorem newr_place {me : Int} {K : KeptM} (h : ¬ (0 ≤ me ∧ me ≤ 2)) : newrE me K = 2 ∧ newrR me K = zeroRepl := by
 have e:newrE me K=2:=by unfold newrE; rw[if_neg h]
 exact⟨e,by unfold newrR; rw[e]; rfl⟩
theorem newr_fault {me : Int} {K : KeptM} (h : 0 ≤ me ∧ me ≤ 2) (hk : keptFault K ≠ 0) : newrE me K = keptFault K ∧ newrR me K = zeroRepl := by
 have e:newrE me K=keptFault K:=by unfold newrE; rw[if_pos h]
 exact⟨e,by unfold newrR; rw[e,if_neg hk]⟩
theorem newr_ok {me : Int} {K : KeptM} (h : 0 ≤ me ∧ me ≤ 2) (hk : keptFault K = 0) : newrE me K = 0 ∧ newrR me K = forgot ⟨me,K,[],[],[],[]⟩ := by
 have e:newrE me K=0:=by unfold newrE; rw[if_pos h,hk]
 exact⟨e,by unfold newrR; rw[e]; rfl⟩

set_option maxRecDepth 4000 in
set_option maxHeartbeats 2000000 in
theorem replNew_any (me : Int) (K : KeptM) (v : Value) (w : World) (h : KeptAt w v K) (hz : K.log.length * 16 ≤ 140737488355328) :
  Calls Tryz.prog 54 #[.int .i64 me,v] w fun e w' => ∃ v',e = .returned (.tuple #[v', .int .i64 (newrE me K)])∧ReplNew w' w.heap.size v' (newrR me K)∧Below w.heap.size w w' := by
 have HP:Hid (∀ W,Calls _ _ _ W _):=fun W=>isPlace_any me W
 have HC:Hid (∀ W,Below w.heap.size w W→Calls _ _ _ W _):=fun W hW=>stageCheck_any K _ W (h.below hW)
 have HD:Hid (∀ W,Below w.heap.size w W→Calls _ _ _ W _):=fun W hW=>stageCopy_any K _ W (h.below hW) hz
 have N1:Hid (¬ (0≤me∧me≤2)→newrE me K=2∧newrR me K=zeroRepl):=newr_place
 have N2:Hid (0≤me∧me≤2→keptFault K≠0→newrE me K=keptFault K∧newrR me K=zeroRepl):=newr_fault
 have N3:Hid (0≤me∧me≤2→keptFault K=0→newrE me K=0∧newrR me K=forgot ⟨me,K,[],[],[],[]⟩):=newr_ok
 obtain⟨vl,rfl,hs⟩:=h
 obtain⟨a,c,rfl,_,_⟩:=hs
 by_cases hp:0≤me∧me≤2
 ·have hpd:(decide (0≤me) && decide (me≤2))=true:=by simp[hp]
  rw[hpd] at HP
  by_cases hk:keptFault K=0
  ·obtain⟨e1,e2⟩:=N3.out hp hk
   rw[e1,e2]
   rw[hk] at HC
   clear N1 N2 N3 e1 e2 hpd hp hk
   have HKN:Hid (∀ W av n cv,Calls _ _ _ W _):=fun W av n cv=>knowing_any me K av n cv W
   obtain⟨vi,nm,cm,l,ct⟩:=K
   simp only at HC HD HKN ⊢
   obtain⟨b0,b1,hb⟩:=boxes2 w 44 49 [.int .i64 vi, .int .i64 nm, .bool cm, .slice a l.length c, .int .i64 ct] [.int .i64 0, .int .i64 0, .int .i64 0, .bool false, .slice none 0 0, .int .i64 0, .slice none 0 0, .slice none 0 0, .slice none 0 0, .slice none 0 0]
   obtain⟨w0,hw0⟩ : ∃ w0,w0=(w.alloc (.cells #[.int .i64 vi, .int .i64 nm, .bool cm, .slice a l.length c, .int .i64 ct] 44)).alloc (.cells #[.int .i64 0, .int .i64 0, .int .i64 0, .bool false, .slice none 0 0, .int .i64 0, .slice none 0 0, .slice none 0 0, .slice none 0 0, .slice none 0 0] 49):=⟨_,rfl⟩
   have hsz:w0.heap.size > w.heap.size+1:=by rw[hw0]; simp
   go_enter Tryz.func54,Tryz.ntmps54
   go_upto_region 1 with fail
   rw[← hw0] at b0 b1 hb ⊢
   clear hw0
   have HB0:Hid (Box w0 w.heap.size _ _):=b0
   have HB1:Hid (Box w0 (w.heap.size+1) _ _):=b1
   have HBW:Hid (Below w.heap.size w w0):=hb
   have HSZ:Hid (w0.heap.size > w.heap.size+1):=hsz
   obtain⟨x0,x1,x2,x3,x4⟩:=b0.c5
   clear b0 b1 hb hsz
   go_wp2_with fail
   refine (HP.out _).mono ?_
   rintro e w' ⟨rfl,h9⟩
   rw[h9]
   clear h9 w'
   go_wp2_with fail
   refine (HC.out _ HBW.out).mono ?_
   rintro e w1 ⟨rfl,hb1⟩
   have HB2:Hid (Below w0.heap.size w0 w1):=hb1
   have r0:=HB0.out.below hb1 HB0.out.lt
   clear hb1 x0 x1 x2 x3 x4 HC
   obtain⟨x0,x1,x2,x3,x4⟩:=r0.c5
   clear r0
   go_wp2_with fail
   refine (HD.out _ (Below.far HBW.out HB2.out)).mono ?_
   rintro e w2 ⟨v2,rfl,⟨vl2,rfl,ho2⟩,hb2⟩
   obtain⟨a2,c2,rfl⟩:=own_form ho2
   have HO2:Hid (World.ownsRow w2 _ _ _ _ _ _):=ho2
   have HB3:Hid (Below w1.heap.size w1 w2):=hb2
   clear x0 x1 x2 x3 x4 ho2 hb2 HD
   go_wp2_with fail
   refine (HKN.out _ _ _ _).mono ?_
   rintro e w3 ⟨bh,bw,bg,bn,rfl,hF,hb3⟩
   have HB4:Hid (Below w2.heap.size w2 w3):=hb3
   have r1:=((HB1.out.below HB2.out HB1.out.lt).below HB3.out (HB1.out.below HB2.out HB1.out.lt).lt)
   have r1:=r1.below hb3 r1.lt
   have HR1:Hid (Box w3 (w.heap.size+1) _ _):=r1
   have HF:Hid (Four _ w3 _ _ _ _):=hF
   obtain⟨y0,y1,y2,y3,y4,y5,y6,y7,y8,y9⟩:=r1.c10
   obtain⟨f0,f1,f2,f3,f4,f5,f6,f7,f8,f9⟩:=r1.z10
   clear hF hb3 r1
   simp only[row3] at *
   go_wp2_with fail
   have key : ∀ w4,w4=setAll w3 (w.heap.size+1) 0 [.int .i64 me, .int .i64 vi, .int .i64 nm, .bool cm, .slice a2 l.length c2, .int .i64 ct, .slice (some ⟨bh,0,none⟩) 3 3, .slice (some ⟨bw,0,none⟩) 3 3, .slice (some ⟨bg,0,none⟩) 3 3, .slice (some ⟨bn,0,none⟩) 3 3]→Hid (Box w4 (w.heap.size+1) 49 [.int .i64 me, .int .i64 vi, .int .i64 nm, .bool cm, .slice a2 l.length c2, .int .i64 ct, .slice (some ⟨bh,0,none⟩) 3 3, .slice (some ⟨bw,0,none⟩) 3 3, .slice (some ⟨bg,0,none⟩) 3 3, .slice (some ⟨bn,0,none⟩) 3 3]∧ReplNew w4 w.heap.size (.agg #[.int .i64 me, .int .i64 vi, .int .i64 nm, .bool cm, .slice a2 l.length c2, .int .i64 ct, .slice (some ⟨bh,0,none⟩) 3 3, .slice (some ⟨bw,0,none⟩) 3 3, .slice (some ⟨bg,0,none⟩) 3 3, .slice (some ⟨bn,0,none⟩) 3 3]) (forgot ⟨me,⟨vi,nm,cm,l,ct⟩,[],[],[],[]⟩)∧Below w.heap.size w w4):=by
    intro w4 e4
    have hs1:=HSZ.out
    have hs2:=HB2.out.size
    have hs3:=HB3.out.size
    have hO:=four_own (HF.out.base (show w.heap.size≤_ by omega)) me ⟨vi,nm,cm,l,ct⟩ _ (own_base (own_below HO2.out HB4.out (own_lt HO2.out)) (by omega)) [] [] [] []
    subst e4
    refine⟨setAll_box HR1.out _ rfl,⟨_,_,_,_,_,_,rfl,hO.setAll HR1.out (by decide) (by decide) (by decide) (by decide) 0 _⟩,(setAll_beside _ _ _ _ (Beside.of (Below.far (Below.far (Below.far HBW.out HB2.out) HB3.out) HB4.out))).below (Nat.le_refl _) (by omega)⟩
   have key:=key _ rfl
   simp only[setAll] at key
   generalize ((((((((((w3.setCell ⟨w.heap.size+1,0,none⟩ (.int .i64 me)).setCell ⟨w.heap.size+1,1,none⟩ (.int .i64 vi)).setCell ⟨w.heap.size+1,2,none⟩ (.int .i64 nm)).setCell ⟨w.heap.size+1,3,none⟩ (.bool cm)).setCell ⟨w.heap.size+1,4,none⟩ (.slice a2 l.length c2)).setCell ⟨w.heap.size+1,5,none⟩ (.int .i64 ct)).setCell ⟨w.heap.size+1,6,none⟩ (.slice (some ⟨bh,0,none⟩) 3 3)).setCell ⟨w.heap.size+1,7,none⟩ (.slice (some ⟨bw,0,none⟩) 3 3)).setCell ⟨w.heap.size+1,8,none⟩ (.slice (some ⟨bg,0,none⟩) 3 3)).setCell ⟨w.heap.size+1,9,none⟩ (.slice (some ⟨bn,0,none⟩) 3 3))=w4 at key ⊢
   clear y0 y1 y2 y3 y4 y5 y6 y7 y8 y9 f0 f1 f2 f3 f4 f5 f6 f7 f8 f9
   have hR:=key.out.1
   obtain⟨y0,y1,y2,y3,y4,y5,y6,y7,y8,y9⟩:=hR.c10
   clear hR
   refine bodyPost_ret (v := .tuple #[.agg #[.int .i64 me, .int .i64 vi, .int .i64 nm, .bool cm, .slice a2 l.length c2, .int .i64 ct, .slice (some ⟨bh,0,none⟩) 3 3, .slice (some ⟨bw,0,none⟩) 3 3, .slice (some ⟨bg,0,none⟩) 3 3, .slice (some ⟨bn,0,none⟩) 3 3], .int .i64 0]) (by clear key HF HR1 HB0 HB1 HBW HO2 HB2 HB3 HB4; simp[results,Tryz.results54,go_sem, *]) rfl ⟨_,rfl,key.out.2.1,key.out.2.2⟩
  ·obtain⟨e1,e2⟩:=N2.out hp hk
   rw[e1,e2]
   clear N1 N2 N3 e1 e2 hpd hp HD
   obtain⟨vi,nm,cm,l,ct⟩:=K
   generalize keptFault ⟨vi,nm,cm,l,ct⟩=kf at *
   simp only at HC ⊢
   obtain⟨b0,b1,hb⟩:=boxes2 w 44 49 [.int .i64 vi, .int .i64 nm, .bool cm, .slice a l.length c, .int .i64 ct] [.int .i64 0, .int .i64 0, .int .i64 0, .bool false, .slice none 0 0, .int .i64 0, .slice none 0 0, .slice none 0 0, .slice none 0 0, .slice none 0 0]
   obtain⟨w0,hw0⟩ : ∃ w0,w0=(w.alloc (.cells #[.int .i64 vi, .int .i64 nm, .bool cm, .slice a l.length c, .int .i64 ct] 44)).alloc (.cells #[.int .i64 0, .int .i64 0, .int .i64 0, .bool false, .slice none 0 0, .int .i64 0, .slice none 0 0, .slice none 0 0, .slice none 0 0, .slice none 0 0] 49):=⟨_,rfl⟩
   go_enter Tryz.func54,Tryz.ntmps54
   go_upto_region 1 with fail
   rw[← hw0] at b0 b1 hb ⊢
   clear hw0
   have HB0:Hid (Box w0 w.heap.size _ _):=b0
   have HB1:Hid (Box w0 (w.heap.size+1) _ _):=b1
   have HBW:Hid (Below w.heap.size w w0):=hb
   obtain⟨x0,x1,x2,x3,x4⟩:=b0.c5
   clear b0 b1 hb
   go_wp2_with fail
   refine (HP.out _).mono ?_
   rintro e w' ⟨rfl,h9⟩
   rw[h9]
   clear h9 w'
   go_wp2_with fail
   refine (HC.out _ HBW.out).mono ?_
   rintro e w1 ⟨rfl,hb1⟩
   have r1:=HB1.out.below hb1 HB1.out.lt
   have HR1:Hid (Box w1 (w.heap.size+1) _ _):=r1
   have HB2:Hid (Below w.heap.size w w1):=Below.far HBW.out hb1
   obtain⟨y0,y1,y2,y3,y4,y5,y6,y7,y8,y9⟩:=r1.c10
   obtain⟨f0,f1,f2,f3,f4,f5,f6,f7,f8,f9⟩:=r1.z10
   clear hb1 x0 x1 x2 x3 x4 HC r1
   go_wp2_with fail
   have key : ∀ w4,w4=setAll w1 (w.heap.size+1) 0 [.int .i64 0, .int .i64 0, .int .i64 0, .bool false, .slice none 0 0, .int .i64 0, .slice none 0 0, .slice none 0 0, .slice none 0 0, .slice none 0 0]→Hid (Box w4 (w.heap.size+1) 49 [.int .i64 0, .int .i64 0, .int .i64 0, .bool false, .slice none 0 0, .int .i64 0, .slice none 0 0, .slice none 0 0, .slice none 0 0, .slice none 0 0]∧Below w.heap.size w w4):=by
    intro w4 e4
    subst e4
    exact⟨setAll_box HR1.out _ rfl,(setAll_beside _ _ _ _ (Beside.of HB2.out)).below (Nat.le_refl _) (by omega)⟩
   have key:=key _ rfl
   simp only[setAll] at key
   generalize ((((((((((w1.setCell ⟨w.heap.size+1,0,none⟩ (.int .i64 0)).setCell ⟨w.heap.size+1,1,none⟩ (.int .i64 0)).setCell ⟨w.heap.size+1,2,none⟩ (.int .i64 0)).setCell ⟨w.heap.size+1,3,none⟩ (.bool false)).setCell ⟨w.heap.size+1,4,none⟩ (.slice none 0 0)).setCell ⟨w.heap.size+1,5,none⟩ (.int .i64 0)).setCell ⟨w.heap.size+1,6,none⟩ (.slice none 0 0)).setCell ⟨w.heap.size+1,7,none⟩ (.slice none 0 0)).setCell ⟨w.heap.size+1,8,none⟩ (.slice none 0 0)).setCell ⟨w.heap.size+1,9,none⟩ (.slice none 0 0))=w4 at key ⊢
   clear y0 y1 y2 y3 y4 y5 y6 y7 y8 y9 f0 f1 f2 f3 f4 f5 f6 f7 f8 f9
   have hR:=key.out.1
   obtain⟨y0,y1,y2,y3,y4,y5,y6,y7,y8,y9⟩:=hR.c10
   clear hR
   exact bodyPost_ret (v := .tuple #[.agg #[.int .i64 0, .int .i64 0, .int .i64 0, .bool false, .slice none 0 0, .int .i64 0, .slice none 0 0, .slice none 0 0, .slice none 0 0, .slice none 0 0], .int .i64 kf]) (by clear key HR1 HB2; simp[results,Tryz.results54,go_sem, *]) rfl ⟨_,rfl,replNil _ _,key.out.2⟩
 ·obtain⟨e1,e2⟩:=N1.out hp
  rw[e1,e2]
  have hpd:(decide (0≤me) && decide (me≤2))=false:=by
   cases q:(decide (0≤me) && decide (me≤2))
   ·rfl
   ·exact absurd (by simpa using q) hp
  rw[hpd] at HP
  clear N1 N2 N3 e1 e2 hpd hp HD HC
  obtain⟨vi,nm,cm,l,ct⟩:=K
  simp only
  obtain⟨b0,b1,hb⟩:=boxes2 w 44 49 [.int .i64 vi, .int .i64 nm, .bool cm, .slice a l.length c, .int .i64 ct] [.int .i64 0, .int .i64 0, .int .i64 0, .bool false, .slice none 0 0, .int .i64 0, .slice none 0 0, .slice none 0 0, .slice none 0 0, .slice none 0 0]
  obtain⟨w0,hw0⟩ : ∃ w0,w0=(w.alloc (.cells #[.int .i64 vi, .int .i64 nm, .bool cm, .slice a l.length c, .int .i64 ct] 44)).alloc (.cells #[.int .i64 0, .int .i64 0, .int .i64 0, .bool false, .slice none 0 0, .int .i64 0, .slice none 0 0, .slice none 0 0, .slice none 0 0, .slice none 0 0] 49):=⟨_,rfl⟩
  go_enter Tryz.func54,Tryz.ntmps54
  go_upto_region 1 with fail
  rw[← hw0] at b0 b1 hb ⊢
  clear hw0
  have HR1:Hid (Box w0 (w.heap.size+1) _ _):=b1
  have HB2:Hid (Below w.heap.size w w0):=hb
  obtain⟨y0,y1,y2,y3,y4,y5,y6,y7,y8,y9⟩:=b1.c10
  obtain⟨f0,f1,f2,f3,f4,f5,f6,f7,f8,f9⟩:=b1.z10
  clear b0 b1 hb
  go_wp2_with fail
  refine (HP.out _).mono ?_
  rintro e w' ⟨rfl,h9⟩
  rw[h9]
  clear h9 w'
  go_wp2_with fail
  have key : ∀ w4,w4=setAll w0 (w.heap.size+1) 0 [.int .i64 0, .int .i64 0, .int .i64 0, .bool false, .slice none 0 0, .int .i64 0, .slice none 0 0, .slice none 0 0, .slice none 0 0, .slice none 0 0]→Hid (Box w4 (w.heap.size+1) 49 [.int .i64 0, .int .i64 0, .int .i64 0, .bool false, .slice none 0 0, .int .i64 0, .slice none 0 0, .slice none 0 0, .slice none 0 0, .slice none 0 0]∧Below w.heap.size w w4):=by
   intro w4 e4
   subst e4
   exact⟨setAll_box HR1.out _ rfl,(setAll_beside _ _ _ _ (Beside.of HB2.out)).below (Nat.le_refl _) (by omega)⟩
  have key:=key _ rfl
  simp only[setAll] at key
  generalize ((((((((((w0.setCell ⟨w.heap.size+1,0,none⟩ (.int .i64 0)).setCell ⟨w.heap.size+1,1,none⟩ (.int .i64 0)).setCell ⟨w.heap.size+1,2,none⟩ (.int .i64 0)).setCell ⟨w.heap.size+1,3,none⟩ (.bool false)).setCell ⟨w.heap.size+1,4,none⟩ (.slice none 0 0)).setCell ⟨w.heap.size+1,5,none⟩ (.int .i64 0)).setCell ⟨w.heap.size+1,6,none⟩ (.slice none 0 0)).setCell ⟨w.heap.size+1,7,none⟩ (.slice none 0 0)).setCell ⟨w.heap.size+1,8,none⟩ (.slice none 0 0)).setCell ⟨w.heap.size+1,9,none⟩ (.slice none 0 0))=w4 at key ⊢
  clear y0 y1 y2 y3 y4 y5 y6 y7 y8 y9 f0 f1 f2 f3 f4 f5 f6 f7 f8 f9
  have hR:=key.out.1
  obtain⟨y0,y1,y2,y3,y4,y5,y6,y7,y8,y9⟩:=hR.c10
  clear hR
  exact bodyPost_ret (v := .tuple #[.agg #[.int .i64 0, .int .i64 0, .int .i64 0, .bool false, .slice none 0 0, .int .i64 0, .slice none 0 0, .slice none 0 0, .slice none 0 0, .slice none 0 0], .int .i64 2]) (by clear key HR1 HB2; simp[results,Tryz.results54,go_sem, *]) rfl ⟨_,rfl,replNil _ _,key.out.2⟩

end Go.Proofs.YtmdgkjbiicaljahGreatDoor

/- The program's own: a replica of what its slots tell. -/
namespace Go.Proofs.YtmdgkjbiicaljahGreatDoor
open Go.RowKit

set_option maxRecDepth 4000 in
set_option maxHeartbeats 4000000 in
theorem begun_any (me : Int) (s : List (List UInt8)) (v : Value) (w : World) (h : Strs w v s) (hE : loadE s = 0) (hf : TextsIn (loadK s).log) :
  Calls Tryz.prog 36 #[.int .i64 me,v] w fun e w' => ∃ v',e = .returned (.tuple #[v', .int .i64 (newrE me (loadK s))])∧ReplNew w' w.heap.size v' (newrR me (loadK s))∧Below w.heap.size w w' := by
 have HL:Hid (∀ W,Below w.heap.size w W→Calls _ _ _ W _):=fun W hW=>stageLoad_any s v W (h.below hW)
 obtain⟨a,c,rfl,_,_⟩:=h
 have HF:Hid (TextsIn (loadK s).log):=hf
 have HE:Hid (loadE s=0):=hE
 have h0:=Box.new w 49 [.int .i64 0, .int .i64 0, .int .i64 0, .bool false, .slice none 0 0, .int .i64 0, .slice none 0 0, .slice none 0 0, .slice none 0 0, .slice none 0 0]
 obtain⟨w0,hw0⟩ : ∃ w0,w0=w.alloc (.cells #[.int .i64 0, .int .i64 0, .int .i64 0, .bool false, .slice none 0 0, .int .i64 0, .slice none 0 0, .slice none 0 0, .slice none 0 0, .slice none 0 0] 49):=⟨_,rfl⟩
 have hb0:Below w.heap.size w w0:=by rw[hw0]; exact below_alloc _ _
 rw[← hw0] at h0
 have HB0:Hid (Below w.heap.size w w0):=hb0
 have H0:Hid (Box w0 w.heap.size _ _):=h0
 clear h0 hb0 hf hE
 go_enter Tryz.func36,Tryz.ntmps36
 go_upto_region 1 with fail
 rw[← hw0]
 clear hw0
 go_wp2_with fail
 refine (HL.out w0 HB0.out).mono ?_
 rintro e w1 ⟨v1,rfl,hk,hb1⟩
 rw[HE.out]
 obtain⟨K,hK⟩ : ∃ K,loadK s=K:=⟨_,rfl⟩
 have HSK:Hid (loadK s=K):=hK
 rw[hK] at hk HF
 clear hK
 obtain⟨vl,rfl,hl⟩:=hk
 obtain⟨a1,c1,rfl⟩:=own_form hl
 have b1:=Box.new w1 44 [.int .i64 K.view, .int .i64 K.normal, .bool K.calm, .slice a1 K.log.length c1, .int .i64 K.commit]
 obtain⟨w2,hw2⟩ : ∃ w2,w2=w1.alloc (.cells #[.int .i64 K.view, .int .i64 K.normal, .bool K.calm, .slice a1 K.log.length c1, .int .i64 K.commit] 44):=⟨_,rfl⟩
 rw[← hw2] at b1
 have hb2:Below w1.heap.size w1 w2:=by rw[hw2]; exact below_alloc _ _
 have HK:Hid (KeptAt w2 (.agg #[.int .i64 K.view, .int .i64 K.normal, .bool K.calm, .slice a1 K.log.length c1, .int .i64 K.commit]) K):=⟨_,rfl,(Strs.of_own hl (by have:=HF.out.1; omega) HF.out.2).below hb2⟩
 have HB2:Hid (Below w.heap.size w w2):=Below.far (Below.far HB0.out hb1) hb2
 have H02:Hid (Box w2 w.heap.size _ _):=(H0.out.below hb1 H0.out.lt).below hb2 (H0.out.below hb1 H0.out.lt).lt
 have HS2:Hid (w.heap.size < w2.heap.size):=H02.out.lt
 clear hl hb1 hb2 H0
 obtain⟨y0,y1,y2,y3,y4⟩:=b1.c5
 go_upto_region 2 with fail
 rw[← hw2]
 clear hw2 b1
 go_wp2_with fail
 refine (replNew_any me K _ w2 HK.out HF.out.1).mono ?_
 rintro e w3 ⟨v3,rfl,hn3,hb3⟩
 have HN3:Hid (ReplNew w3 w2.heap.size v3 (newrR me K)):=hn3
 obtain⟨al,cl,ah,ch,aw,cw,ag,cg,an,cn,rfl⟩:=hn3.form
 have H03:Hid (Box w3 w.heap.size _ _):=H02.out.below hb3 H02.out.lt
 have HB3:Hid (Below w.heap.size w w3):=Below.far HB2.out hb3
 obtain⟨R,hR⟩ : ∃ R,newrR me K=R:=⟨_,rfl⟩
 obtain⟨E,hEE⟩ : ∃ E,newrE me K=E:=⟨_,rfl⟩
 have HR:Hid (newrR me (loadK s)=R):=by rw[HSK.out]; exact hR
 have HEE:Hid (newrE me (loadK s)=E):=by rw[HSK.out]; exact hEE
 rw[hR] at HN3 ⊢
 rw[hEE]
 clear hR hEE
 clear y0 y1 y2 y3 y4 hn3 hb3 H02 HB2 HB0
 have h3:=H03.out
 obtain⟨y0,y1,y2,y3,y4,y5,y6,y7,y8,y9⟩:=h3.c10
 obtain⟨f0,f1,f2,f3,f4,f5,f6,f7,f8,f9⟩:=h3.z10
 have HF5:Hid (Box (setAll w3 w.heap.size 0 [.int .i64 R.me, .int .i64 R.kept.view, .int .i64 R.kept.normal, .bool R.kept.calm, .slice al R.kept.log.length cl, .int .i64 R.kept.commit, .slice ah R.hav.length ch, .slice aw R.wants.length cw, .slice ag R.gives.length cg, .slice an R.given.length cn]) w.heap.size 49 [.int .i64 R.me, .int .i64 R.kept.view, .int .i64 R.kept.normal, .bool R.kept.calm, .slice al R.kept.log.length cl, .int .i64 R.kept.commit, .slice ah R.hav.length ch, .slice aw R.wants.length cw, .slice ag R.gives.length cg, .slice an R.given.length cn]∧ReplNew (setAll w3 w.heap.size 0 [.int .i64 R.me, .int .i64 R.kept.view, .int .i64 R.kept.normal, .bool R.kept.calm, .slice al R.kept.log.length cl, .int .i64 R.kept.commit, .slice ah R.hav.length ch, .slice aw R.wants.length cw, .slice ag R.gives.length cg, .slice an R.given.length cn]) w.heap.size (.agg #[.int .i64 R.me, .int .i64 R.kept.view, .int .i64 R.kept.normal, .bool R.kept.calm, .slice al R.kept.log.length cl, .int .i64 R.kept.commit, .slice ah R.hav.length ch, .slice aw R.wants.length cw, .slice ag R.gives.length cg, .slice an R.given.length cn]) R∧Below w.heap.size w (setAll w3 w.heap.size 0 [.int .i64 R.me, .int .i64 R.kept.view, .int .i64 R.kept.normal, .bool R.kept.calm, .slice al R.kept.log.length cl, .int .i64 R.kept.commit, .slice ah R.hav.length ch, .slice aw R.wants.length cw, .slice ag R.gives.length cg, .slice an R.given.length cn])):=by
  refine⟨setAll_box h3 _ rfl, ?_, ?_⟩
  ·obtain⟨vl,vh,vw,vg,vn,ps,e,ho⟩:=HN3.out.base (Nat.le_of_lt HS2.out)
   exact⟨vl,vh,vw,vg,vn,ps,e,ho.setAll h3 (by decide) (by decide) (by decide) (by decide) 0 _⟩
  ·have q:=setAll_beside_up (b:=w.heap.size) (Nat.le_refl w.heap.size) [.int .i64 R.me, .int .i64 R.kept.view, .int .i64 R.kept.normal, .bool R.kept.calm, .slice al R.kept.log.length cl, .int .i64 R.kept.commit, .slice ah R.hav.length ch, .slice aw R.wants.length cw, .slice ag R.gives.length cg, .slice an R.given.length cn] w w3 0 (Beside.of HB3.out)
   exact q.below (Nat.le_refl _) (Nat.le_refl _)
 obtain⟨w5,hw5⟩ : ∃ w5,w5=setAll w3 w.heap.size 0 [.int .i64 R.me, .int .i64 R.kept.view, .int .i64 R.kept.normal, .bool R.kept.calm, .slice al R.kept.log.length cl, .int .i64 R.kept.commit, .slice ah R.hav.length ch, .slice aw R.wants.length cw, .slice ag R.gives.length cg, .slice an R.given.length cn]:=⟨_,rfl⟩
 rw[← hw5] at HF5
 simp only[setAll] at hw5
 go_wp2_with fail
 rw[← hw5]
 clear hw5 y0 y1 y2 y3 y4 y5 y6 y7 y8 y9 f0 f1 f2 f3 f4 f5 f6 f7 f8 f9 h3
 have h0:=HF5.out.1
 obtain⟨y0,y1,y2,y3,y4,y5,y6,y7,y8,y9⟩:=h0.c10
 clear h0
 refine bodyPost_ret (v := .tuple #[.agg #[.int .i64 R.me, .int .i64 R.kept.view, .int .i64 R.kept.normal, .bool R.kept.calm, .slice al R.kept.log.length cl, .int .i64 R.kept.commit, .slice ah R.hav.length ch, .slice aw R.wants.length cw, .slice ag R.gives.length cg, .slice an R.given.length cn], .int .i64 E]) (by clear HF5 HN3 H03 HB3; simp[results,Tryz.results36,go_sem, *]) rfl (by rw[HR.out,HEE.out]; exact⟨_,rfl,HF5.out.2⟩)

end Go.Proofs.YtmdgkjbiicaljahGreatDoor

/- The program's own: a replica begins anew. -/
namespace Go.Proofs.YtmdgkjbiicaljahGreatDoor
open Go.RowKit

set_option maxRecDepth 4000 in
set_option maxHeartbeats 4000000 in
theorem anew_any (B b i : Nat) (N : NetM) (w : World) (h : NetAt w B b N) (hB : B ≤ w.heap.size) (hi : i < N.slots.length) (hir : i < N.repls.length) (hz : TextsIn (N.slot i)) (hE : loadE (N.slot i) = 0) (hf : TextsIn (loadK (N.slot i)).log) (hn : newrE i (loadK (N.slot i)) = 0) :
  Calls Tryz.prog 64 #[.pointer (some ⟨b,0,none⟩), .int .i64 i] w fun e w' => e = .returned (.int .i64 0)∧NetAt w' B b (anewN N i)∧Goes w w' B b:=by
 have HN:Hid (NetAt w B b N):=h
 obtain⟨vr,vs,vf,vc,vt,vk,hx,hrows⟩:=h
 obtain⟨g,cap,vl,rfl,hg,ho,hc,hfz⟩:=hrows.s.read i hi (N.slot i) rfl
 have HBG:Hid (Calls _ _ _ w _):=begun_any i (N.slot i) vl w (Strs.of_own ho (by have:=hz.1; omega) hz.2) hE hf
 rw[hn] at HBG
 have HX:Hid (Box w b _ _):=hx
 have HIR:Hid (i < N.repls.length):=hir
 have HBS:Hid (B≤w.heap.size):=hB
 have HAN:Hid (anewN N i=replN N i (newrR i (loadK (N.slot i)))):=rfl
 have x1:=hx.cell 1 _ rfl
 have k0:(0:Int)≤(i:Int):=by omega
 have k1:(i:Int) < (N.slots.length:Int):=by omega
 have k2:(i:Int) < (N.repls.length:Int):=by omega
 clear hrows ho hfz hg hE hf hn hz hB hir hx
 go_enter Tryz.func64,Tryz.ntmps64
 go_wp2_with fail
 refine HBG.out.mono ?_
 rintro e w1 ⟨v1,rfl,hn1,hb1⟩
 obtain⟨R,hR⟩ : ∃ R,newrR i (loadK (N.slot i))=R:=⟨_,rfl⟩
 rw[hR] at hn1 HAN
 have HRM:Hid (ReplNew w1 w.heap.size v1 R):=hn1
 obtain⟨al,cl,ah,ch,aw,cw,ag,cg,an,cn,rfl⟩:=hn1.form
 have HN1:Hid (NetAt w1 B b N):=HN.out.below hb1
 have HB1:Hid (Below w.heap.size w w1):=hb1
 have b1:=Box.new w1 49 [.int .i64 R.me, .int .i64 R.kept.view, .int .i64 R.kept.normal, .bool R.kept.calm, .slice al R.kept.log.length cl, .int .i64 R.kept.commit, .slice ah R.hav.length ch, .slice aw R.wants.length cw, .slice ag R.gives.length cg, .slice an R.given.length cn]
 obtain⟨w2,hw2⟩ : ∃ w2,w2=w1.alloc (.cells #[.int .i64 R.me, .int .i64 R.kept.view, .int .i64 R.kept.normal, .bool R.kept.calm, .slice al R.kept.log.length cl, .int .i64 R.kept.commit, .slice ah R.hav.length ch, .slice aw R.wants.length cw, .slice ag R.gives.length cg, .slice an R.given.length cn] 49):=⟨_,rfl⟩
 have hb2:Below w1.heap.size w1 w2:=by rw[hw2]; exact below_alloc _ _
 rw[← hw2] at b1
 have HN2:Hid (NetAt w2 B b N):=HN1.out.below hb2
 have HB2:Hid (Below w.heap.size w w2):=Below.far hb1 hb2
 have HRN:Hid (ReplNew w2 B (.agg #[.int .i64 R.me, .int .i64 R.kept.view, .int .i64 R.kept.normal, .bool R.kept.calm, .slice al R.kept.log.length cl, .int .i64 R.kept.commit, .slice ah R.hav.length ch, .slice aw R.wants.length cw, .slice ag R.gives.length cg, .slice an R.given.length cn]) R):=(HRM.out.below hb2).base HBS.out
 have HBM:Hid (Box w2 w1.heap.size _ _):=b1
 clear hn1 hb1 hb2 b1 x1 hR hc HN1 HRM HBG
 go_upto_region 2 with fail
 rw[← hw2]
 clear hw2
 obtain⟨lb,hlb⟩ : ∃ lb,w1.heap.size=lb:=⟨_,rfl⟩
 rw[hlb] at HBM ⊢
 clear hlb
 obtain⟨vr2,vsl2,vf2,vc2,vt2,vk2,hx2,hrows2⟩:=HN2.out
 obtain⟨g4,cap4,wl,wh,ww,wg,wn,ps4,rfl,hg4,hro,hcs⟩:=hrows2.r.read i HIR.out (N.repl i) rfl
 have HX2:Hid (Box w2 b _ _):=hx2
 have HR2:Hid (NetRows w2 B N _ _ _ _ _ _):=hrows2
 have HGB:Hid (B≤g4):=hg4
 clear hx2 hrows2 hro hcs hg4
 go_upto_region 4 with fail
 refine wp_region_plan [0,0,0,0,0,0,0,0,1] (.free 0 (.done 1)) (by kernel_rfl) (by kernel_rfl) (fun h=>h) (Below w2.heap.size w2) (Below.refl _ _) (fun V n hV=>below_drewN n hV) fun n5 => ?_
 refine wpPlan_free (by kernel_rfl) ?_
 apply Exists.intro
 refine⟨?_, ?_⟩
 ·intro V hV
  have bx:=HX2.out.below hV HX2.out.lt
  have by' := HBM.out.below hV HBM.out.lt
  obtain⟨x0,x1,x2,x3,x4,x5⟩:=bx.c6
  obtain⟨y0,y1,y2,y3,y4,y5,y6,y7,y8,y9⟩:=by'.c10
  simp only[sel,↓reduceIte,Nat.reduceEqDiff]
  repeat (go_big_quiet_step (fail))
  refine wpQuiet_nil ?_
  rfl
 intro n6
 refine wpPlan_done ?_
 simp only[sel,↓reduceIte,Nat.reduceEqDiff]
 obtain⟨w5,hw5⟩ : ∃ w5,w5=(w2.drewN n5).drewN n6:=⟨_,rfl⟩
 have HB5:Hid (Below w2.heap.size w2 w5):=by rw[hw5]; exact below_drewN _ (below_drewN _ (Below.refl _ _))
 rw[← hw5]
 clear hw5
 have HX5:Hid (Box w5 b _ _):=HX2.out.below HB5.out HX2.out.lt
 have HR5:Hid (NetRows w5 B N _ _ _ _ _ _):=HR2.out.below HB5.out
 have hg5 : ∀ j,j < 10→(∃ x,w5.cell? ⟨g4,i * 10+j,none⟩=some x)∧w5.frozen? ⟨g4,i * 10+j,none⟩=false:=fun j hj=>by
  obtain⟨g',cap',_,_,_,_,_,_,e,_,_,hc⟩:=HR5.out.r.read i HIR.out (N.repl i) rfl
  simp only[Value.slice.injEq,Option.some.injEq,Addr.mk.injEq,and_true,true_and] at e
  obtain⟨rfl,_⟩:=e
  obtain⟨q1,q2⟩:=hc j hj
  refine⟨?_,q2⟩
  rw[q1]
  exact⟨_,List.getElem?_eq_getElem (by show j < 10; omega)⟩
 obtain⟨⟨q0,p0⟩,r0⟩:=hg5 0 (by omega)
 obtain⟨⟨q1,p1⟩,r1⟩:=hg5 1 (by omega)
 obtain⟨⟨q2,p2⟩,r2⟩:=hg5 2 (by omega)
 obtain⟨⟨q3,p3⟩,r3⟩:=hg5 3 (by omega)
 obtain⟨⟨q4,p4⟩,r4⟩:=hg5 4 (by omega)
 obtain⟨⟨q5,p5⟩,r5⟩:=hg5 5 (by omega)
 obtain⟨⟨q6,p6⟩,r6⟩:=hg5 6 (by omega)
 obtain⟨⟨q7,p7⟩,r7⟩:=hg5 7 (by omega)
 obtain⟨⟨q8,p8⟩,r8⟩:=hg5 8 (by omega)
 obtain⟨⟨q9,p9⟩,r9⟩:=hg5 9 (by omega)
 rw[Nat.add_zero] at p0 r0
 clear hg5
 obtain⟨xl,xh,xw,xg,xn,xps,hxv,hxo⟩:=HRN.out.below HB5.out
 have HE5:Hid (NetAt (setAll w5 g4 (i * 10) [.int .i64 R.me, .int .i64 R.kept.view, .int .i64 R.kept.normal, .bool R.kept.calm, .slice al R.kept.log.length cl, .int .i64 R.kept.commit, .slice ah R.hav.length ch, .slice aw R.wants.length cw, .slice ag R.gives.length cg, .slice an R.given.length cn]) B b (replN N i R)∧Goes w (setAll w5 g4 (i * 10) [.int .i64 R.me, .int .i64 R.kept.view, .int .i64 R.kept.normal, .bool R.kept.calm, .slice al R.kept.log.length cl, .int .i64 R.kept.commit, .slice ah R.hav.length ch, .slice aw R.wants.length cw, .slice ag R.gives.length cg, .slice an R.given.length cn]) B b):=by
  have q:=HR5.out.repl HX5.out HGB.out i HIR.out R _ _ _ _ _ _ hxo
  have e:replCells R xl xh xw xg xn = [.int .i64 R.me, .int .i64 R.kept.view, .int .i64 R.kept.normal, .bool R.kept.calm, .slice al R.kept.log.length cl, .int .i64 R.kept.commit, .slice ah R.hav.length ch, .slice aw R.wants.length cw, .slice ag R.gives.length cg, .slice an R.given.length cn]:=by
   simp only[Value.agg.injEq,replCells,Array.mk.injEq] at hxv ⊢
   exact hxv.symm
  rw[e] at q
  exact⟨q.1,((Goes.of HX.out HBS.out HB2.out).trans (Goes.of HX2.out (Nat.le_trans HBS.out HB2.out.size) HB5.out)).trans q.2⟩
 clear hxo HX2 HR2 HGB hxv HX5 HR5 HRN
 obtain⟨w6,hw6⟩ : ∃ w6,w6=setAll w5 g4 (i * 10) [.int .i64 R.me, .int .i64 R.kept.view, .int .i64 R.kept.normal, .bool R.kept.calm, .slice al R.kept.log.length cl, .int .i64 R.kept.commit, .slice ah R.hav.length ch, .slice aw R.wants.length cw, .slice ag R.gives.length cg, .slice an R.given.length cn]:=⟨_,rfl⟩
 rw[← hw6] at HE5
 simp only[setAll,Nat.add_assoc,Nat.reduceAdd] at hw6
 go_upto_region 5 with fail
 rw[← hw6]
 clear hw6 p0 p1 p2 p3 p4 p5 p6 p7 p8 p9 r0 r1 r2 r3 r4 r5 r6 r7 r8 r9
 go_wp2_with fail
 go_ret
 rw[HAN.out]
 exact⟨rfl,HE5.out⟩

end Go.Proofs.YtmdgkjbiicaljahGreatDoor

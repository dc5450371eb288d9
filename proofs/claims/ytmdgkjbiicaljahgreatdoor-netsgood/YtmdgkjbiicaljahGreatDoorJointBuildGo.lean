/- The program's own stage.Decode. -/
import Derived.Test.YtmdgkjbiicaljahGreatDoorJointRlogGo
import Derived.Test.YtmdgkjbiicaljahGreatDoorJointStageMath
import Derived.Shelf.Strings.Builder1
import Derived.Shelf.Strings.BuilderF
import Derived.Shelf.Strings.BuilderK
import Derived.Shelf.Strconv.Itoa0
import Derived.Shelf.Strconv.Itoa1
import Derived.Shelf.LaysM
import Derived.Shelf.Strconv.Itoa2
import Derived.Shelf.Strconv.Itoa3
import Derived.Shelf.Strings.BuilderCap
import Derived.Test.YtmdgkjbiicaljahGreatDoorProg
import Derived.Lib.Builder
import Derived.Lib.AppendStr
import Derived.Laws.Externs
set_option linter.unusedVariables false
set_option linter.unusedSimpArgs false
namespace Go.Proofs.YtmdgkjbiicaljahGreatDoor
open Go.RowKit
attribute [local go_sem] app_list ext_list get_list byteAt_zero

theorem body_head (t : List UInt8) : bodyE t = if headE t ≠ 0 then headE t else if txtsE (nAt t 5).toNat (numsR 6 t) ≠ 0 then txtsE (nAt t 5).toNat (numsR 6 t) else if txtsR (nAt t 5).toNat (numsR 6 t) ≠ [] then 4 else keptFault (keptP t) := by
 by_cases h1:numsE 6 t=0
 ·have q : ¬ numsE 6 t≠0:=by simp[h1]
  by_cases h2:1 < nAt t 3∨60 < nAt t 5
  ·have e:headE t=4:=by unfold headE; rw[if_neg q,if_pos h2]
   rw[e]
   unfold bodyE
   rw[if_neg q,if_pos h2,if_pos (show (4:Int)≠0 by decide)]
  ·have e:headE t=0:=by unfold headE; rw[if_neg q,if_neg h2]
   rw[e]
   unfold bodyE
   rw[if_neg q,if_neg h2,if_neg (show ¬ (0:Int)≠0 by decide)]
 ·have e:headE t=numsE 6 t:=by unfold headE; rw[if_pos h1]
  rw[e]
  unfold bodyE
  rw[if_pos h1,if_pos h1]
theorem six_list (l : List Int) (h : l.length = 6) : l = [l.getD 0 0,l.getD 1 0,l.getD 2 0,l.getD 3 0,l.getD 4 0,l.getD 5 0] := by
 match l,h with
 | [a,b,c,d,e,f],_=>rfl
theorem head_ok (t : List UInt8) (h : headE t = 0) : headV t = [nAt t 0,nAt t 1,nAt t 2,nAt t 3,nAt t 4,nAt t 5] ∧ headR t = numsR 6 t ∧ nAt t 5 ≤ 60 := by
 refine⟨by unfold headV; rw[if_pos h]; exact six_list _ (numsV_len 6 t),by unfold headR; rw[if_pos h], ?_⟩
 unfold headE at h
 split at h
 ·omega
 ·split at h
  ·omega
  ·omega
theorem head_no (t : List UInt8) (h : headE t ≠ 0) : headV t = [0,0,0,0,0,0] ∧ headR t = [] := by
 unfold headV headR
 rw[if_neg h,if_neg h]
 exact⟨rfl,rfl⟩

set_option maxRecDepth 4000 in
set_option maxHeartbeats 4000000 in
theorem stageDec_any (s : List UInt8) (w : World) (hl : s.length ≤ 281474976710656) :
  Calls Tryz.prog 25 #[.string ⟨s.toArray⟩] w fun e w' => ∃ v',e = .returned (.tuple #[v', .int .i64 (kdecG s), .int .i64 (kdecE s)])∧KeptNew w' w.heap.size v' (kdecK s)∧Below w.heap.size w w' := by
 have b0:=Box.new w 44 [.int .i64 0, .int .i64 0, .bool false, .slice none 0 0, .int .i64 0]
 have hb:=below_alloc w (.cells #[.int .i64 0, .int .i64 0, .bool false, .slice none 0 0, .int .i64 0] 44)
 have HU:Hid (∀ w,Calls _ _ _ w _):=fun w=>unseal_any s w hl
 have HKU:Hid (kdecE s=if unsE s=0 then bodyE (s.drop 4) else unsE s):=kdecE_uns s
 have HUB:Hid (unsE s=0→(unsB s).length≤4000∧unsB s=s.drop 4):=unsB_le s
 have HKZ:Hid (kdecE s≠0→kdecG s=0∧kdecK s=zeroKept):=kdec_err s
 have HKK:Hid (kdecE s=0→kdecK s=keptP (s.drop 4)∧kdecG s=nAt (s.drop 4) 0):=by
  intro h
  unfold kdecK kdecG
  rw[if_pos h,if_pos h]
  exact⟨rfl,rfl⟩
 obtain⟨T,hT⟩ : ∃ T,s.drop 4=T:=⟨_,rfl⟩
 rw[hT] at HKU HUB HKK
 clear hT
 obtain⟨x,hx⟩ : ∃ x,unsE s=x:=⟨_,rfl⟩
 obtain⟨B,hB⟩ : ∃ B,unsB s=B:=⟨_,rfl⟩
 rw[hx] at HU HKU HUB
 rw[hB] at HU HUB
 clear hx hB
 go_enter Tryz.func25,Tryz.ntmps25
 go_wp2_with fail
 refine (HU.out _).mono ?_
 rintro e w1 ⟨rfl,hb1⟩
 have c0:=b0.below hb1 b0.lt
 have hw1:=Below.seq hb hb1
 clear b0 hb hb1 HU
 by_cases hx0:x=0
 ·subst hx0
  obtain⟨hBl,rfl⟩:=HUB.out rfl
  have HKB:Hid (kdecE s=if headE B≠0 then headE B else if txtsE (nAt B 5).toNat (numsR 6 B)≠0 then txtsE (nAt B 5).toNat (numsR 6 B) else if txtsR (nAt B 5).toNat (numsR 6 B) ≠ [] then 4 else keptFault (keptP B)):=by
   unfold Hid
   rw[HKU.out,if_pos rfl,body_head]
  have HH:Hid (∀ w,Calls _ _ _ w _):=fun w=>readHead_any B w hBl
  have HO:Hid (headE B=0→headV B = [nAt B 0,nAt B 1,nAt B 2,nAt B 3,nAt B 4,nAt B 5]∧headR B=numsR 6 B∧nAt B 5≤60):=head_ok B
  have HN:Hid (headE B≠0→headV B = [0,0,0,0,0,0]∧headR B = []):=head_no B
  clear HKU HUB
  obtain⟨y,hy⟩ : ∃ y,headE B=y:=⟨_,rfl⟩
  rw[hy] at HKB HH HO HN
  clear hy
  by_cases hy0:y=0
  ·subst hy0
   obtain⟨e1,e2,h60⟩:=HO.out rfl
   rw[e1,e2] at HH
   have HKC:Hid (kdecE s=if txtsE (nAt B 5).toNat (numsR 6 B)≠0 then txtsE (nAt B 5).toNat (numsR 6 B) else if txtsR (nAt B 5).toNat (numsR 6 B) ≠ [] then 4 else keptFault (keptP B)):=by
    unfold Hid
    rw[HKB.out,if_neg (by decide)]
   have h0:=(nAt_bd B 5).1
   have hRl:=numsR_le 6 B
   have HKP:Hid (keptP B=⟨nAt B 1,nAt B 2,nAt B 3 == 1,txtsD (nAt B 5).toNat (numsR 6 B),nAt B 4⟩):=rfl
   obtain⟨KP,HKP1⟩ : ∃ KP,keptP B=KP:=⟨_,rfl⟩
   rw[HKP1] at HKP HKC HKK
   clear HKB HO HN e1 e2 HKP1
   generalize nAt B 0=n0 at *
   generalize nAt B 1=n1 at *
   generalize nAt B 2=n2 at *
   generalize nAt B 3=n3 at *
   generalize nAt B 4=n4 at *
   generalize nAt B 5=n5 at *
   generalize numsR 6 B=R at *
   obtain⟨m,hm⟩ : ∃ m:Nat,n5=(m:Int):=⟨n5.toNat,by omega⟩
   subst hm
   rw[Int.toNat_natCast] at HKC HKP
   have hm60:m≤60:=by omega
   have HL:Hid (∀ w,Calls _ _ _ w _):=fun w=>readLog_any R m w (by omega) hm60
   have HRD:Hid (txtsE m R=0→rlogD m R=txtsD m R∧rlogR m R=txtsR m R):=fun h=>⟨by unfold rlogD; rw[if_pos h],by unfold rlogR; rw[if_pos h]⟩
   have hDl:=txtsD_len m R
   have hDb : ∀ x ∈ txtsD m R,x.length≤140737488355328:=fun x hx=>by have:=txtsD_le m R x hx; omega
   have HDB:Hid (∀ x ∈ txtsD m R,x.length≤140737488355328):=hDb
   clear hDb
   obtain⟨z,hz⟩ : ∃ z,txtsE m R=z:=⟨_,rfl⟩
   rw[hz] at HKC HL HRD
   clear hz
   unfold numCells at HH
   go_wp2_with fail
   refine (HH.out _).mono ?_
   rintro e w2 ⟨rfl,hb2⟩
   simp only[List.map_cons,List.map_nil]
   have d0:=c0.below hb2 c0.lt
   have hw2:=Below.seq hw1 hb2
   clear c0 hw1 hb2 HH
   have H7:Hid (Box _ w2.heap.size 109 [.int .i64 n0, .int .i64 n1, .int .i64 n2, .int .i64 n3, .int .i64 n4, .int .i64 m]):=Box.new w2 109 [.int .i64 n0, .int .i64 n1, .int .i64 n2, .int .i64 n3, .int .i64 n4, .int .i64 m]
   have HD:Hid (Box _ w.heap.size _ _):=d0.alloc (.cells #[.int .i64 n0, .int .i64 n1, .int .i64 n2, .int .i64 n3, .int .i64 n4, .int .i64 m] 109)
   have HW:Hid (Below w.heap.size w _):=Below.up hw2 (.cells #[.int .i64 n0, .int .i64 n1, .int .i64 n2, .int .i64 n3, .int .i64 n4, .int .i64 m] 109)
   have hlt:=d0.lt
   clear d0 hw2
   go_wp2_with fail
   refine (HL.out _).mono ?_
   rintro e w3 ⟨v3,rfl,hown3,hb3⟩
   obtain⟨a3,c3,rfl⟩:=own_formN hown3
   have q7:=H7.out.below hb3 H7.out.lt
   have q0:=HD.out.below hb3 HD.out.lt
   have hw3:=Below.far HW.out hb3
   have hown:=own_base (base' := w.heap.size) hown3 (by simp; omega)
   clear H7 HD HW hb3 hown3 HL
   obtain⟨b7,hb7⟩ : ∃ b7,w2.heap.size=b7:=⟨_,rfl⟩
   rw[hb7] at q7 hlt ⊢
   clear hb7
   by_cases hz0:z=0
   ·subst hz0
    obtain⟨e1,e2⟩:=HRD.out rfl
    rw[e1] at hown ⊢
    rw[e2]
    have HKD:Hid (kdecE s=if txtsR m R ≠ [] then 4 else keptFault KP):=by
     unfold Hid
     rw[HKC.out,if_neg (by decide)]
    clear HKC HRD e1 e2
    obtain⟨u,hu⟩ : ∃ u,txtsR m R=u:=⟨_,rfl⟩
    rw[hu] at HKD ⊢
    clear hu
    have hcu:u = [] ∨ ∃ c r,u=c :: r:=by cases u; exact Or.inl rfl; exact Or.inr ⟨_,_,rfl⟩
    rcases hcu with rfl | ⟨cu',ru,rfl⟩
    ·have HBI:Hid (kdecE s=keptFault KP):=by unfold Hid; rw[HKD.out,if_neg (by simp)]
     clear HKD
     obtain⟨LG,HLG⟩ : ∃ LG,txtsD m R=LG:=⟨_,rfl⟩
     rw[HLG] at hown HKP hDl HDB ⊢
     clear HLG
     have HKN:Hid (KeptNew w3 w.heap.size (.agg #[.int .i64 n1, .int .i64 n2, .bool (n3 == 1), .slice a3 LG.length c3, .int .i64 n4]) KP):=by
      unfold Hid
      rw[HKP.out]
      exact⟨_,rfl,hown⟩
     have HF:Hid (∀ W,Below w3.heap.size w3 W→Calls _ _ _ W _):=fun W hW=>stageCheck_any KP _ W ((HKN.out.at (by rw[HKP.out]; simp only[hDl]; omega) (by rw[HKP.out]; exact HDB.out)).below hW)
     obtain⟨f,hf⟩ : ∃ f,keptFault KP=f:=⟨_,rfl⟩
     rw[hf] at HF HBI
     clear hf HDB hown
     obtain⟨kc,hkc⟩ : ∃ kc,(n3 == 1)=kc:=⟨_,rfl⟩
     rw[hkc] at HKN HF HKP
     rw[hDl] at HKN HF ⊢
     clear hDl
     have HQ0:Hid (Box w3 w.heap.size _ _):=q0
     have HQ7:Hid (Box w3 b7 _ _):=q7
     have HW3:Hid (Below w.heap.size w w3):=hw3
     have x1:=q7.cell 1 _ rfl
     have x2:=q7.cell 2 _ rfl
     have x3:=q7.cell 3 _ rfl
     have x4:=q7.cell 4 _ rfl
     have l7:=q7.lt
     clear q0 q7 hw3
     go_wp2_with fail
     have H10:Hid (∀ O,Box (w3.alloc O) b7 _ _):=fun O=>HQ7.out.alloc O
     have HK10:Hid (Box _ w3.heap.size 44 [.int .i64 n1, .int .i64 n2, .bool kc, .slice a3 m c3, .int .i64 n4]):=Box.new w3 44 [.int .i64 n1, .int .i64 n2, .bool kc, .slice a3 m c3, .int .i64 n4]
     clear hkc
     refine (HF.out _ (below_alloc _ _)).mono ?_
     rintro e w5 ⟨rfl,hb5⟩
     have K10:=HK10.out.below hb5 HK10.out.lt
     have K7:=(H10.out _).below hb5 (H10.out _).lt
     have K0:=(HQ0.out.alloc _).below hb5 (HQ0.out.alloc _).lt
     have hw5:=Below.far HW3.out (Below.far (below_alloc _ _) hb5)
     have HN5:Hid (KeptNew w5 w.heap.size _ KP):=HKN.out.below (Below.far (below_alloc _ _) hb5)
     obtain⟨b10,hb10⟩ : ∃ b10,w3.heap.size=b10:=⟨_,rfl⟩
     rw[hb10] at K10 l7 ⊢
     clear hb10 HK10 H10 hb5 HF HQ0 HQ7 HW3 HKN x1 x2 x3 x4
     by_cases hf0:f=0
     ·subst hf0
      have HX:Hid (kdecE s=0∧kdecG s=n0∧kdecK s=KP):=⟨HBI.out,(HKK.out HBI.out).2,(HKK.out HBI.out).1⟩
      obtain⟨p0,p1,p2,p3,p4⟩:=K10.c5
      have lp:=K10.lt
      have x0:=K7.cell 0 _ rfl
      have lx:=K7.lt
      have n9 : ¬ b10=w.heap.size:=by omega
      have nn : ¬ b7=w.heap.size:=by omega
      have HNN:Hid (KeptNew _ w.heap.size _ KP):=((((HN5.out.type K0 (by decide) 0 (.int .i64 n1)).type (K0.set 0 _) (by decide) 1 (.int .i64 n2)).type ((K0.set 0 _).set 1 _) (by decide) 2 (.bool kc)).type (((K0.set 0 _).set 1 _).set 2 _) (by decide) 3 (.slice a3 m c3)).type ((((K0.set 0 _).set 1 _).set 2 _).set 3 _) (by decide) 4 (.int .i64 n4)
      obtain⟨r0,r1,r2,r3,r4⟩:=K0.c5
      obtain⟨f0,f1,f2,f3,f4⟩:=K0.z5
      have HB:Hid (Below w.heap.size w _):=(((((hw5.setCell (p:=⟨w.heap.size,0,none⟩) (by simp) (.int .i64 n1)).setCell (p:=⟨w.heap.size,1,none⟩) (by simp) (.int .i64 n2)).setCell (p:=⟨w.heap.size,2,none⟩) (by simp) (.bool kc)).setCell (p:=⟨w.heap.size,3,none⟩) (by simp) (.slice a3 m c3)).setCell (p:=⟨w.heap.size,4,none⟩) (by simp) (.int .i64 n4))
      clear K0 K7 K10 hw5 HN5 HKK HKZ
      go_wp2_with fail
      go_region
      all_goals go_wp2_with fail
      all_goals rw[HX.out.1,HX.out.2.1,HX.out.2.2]
      all_goals exact bodyPost_ret (v := .tuple #[.agg #[.int .i64 n1, .int .i64 n2, .bool kc, .slice a3 m c3, .int .i64 n4], .int .i64 n0, .int .i64 0]) (by clear HB HNN; simp[results,Tryz.results25,go_sem, *]) rfl ⟨_,rfl,HNN.out,HB.out.drew⟩
     ·have c1:(f == 0)=false:=by simpa using hf0
      have c2:(f != 0)=true:=by simpa using hf0
      have HX:Hid (kdecE s=f∧kdecG s=0∧kdecK s=zeroKept):=⟨HBI.out,HKZ.out (by rw[HBI.out]; exact hf0)⟩
      obtain⟨r0,r1,r2,r3,r4⟩:=K0.c5
      obtain⟨f0,f1,f2,f3,f4⟩:=K0.z5
      have HB:Hid (Below w.heap.size w _):=(((((hw5.setCell (p:=⟨w.heap.size,0,none⟩) (by simp) (.int .i64 0)).setCell (p:=⟨w.heap.size,1,none⟩) (by simp) (.int .i64 0)).setCell (p:=⟨w.heap.size,2,none⟩) (by simp) (.bool false)).setCell (p:=⟨w.heap.size,3,none⟩) (by simp) (.slice none 0 0)).setCell (p:=⟨w.heap.size,4,none⟩) (by simp) (.int .i64 0))
      clear K0 K7 K10 hw5 HN5 HKK HKZ hf0
      go_wp2_with fail
      rw[HX.out.1,HX.out.2.1,HX.out.2.2]
      exact bodyPost_ret (v := .tuple #[.agg #[.int .i64 0, .int .i64 0, .bool false, .slice none 0 0, .int .i64 0], .int .i64 0, .int .i64 f]) (by clear HB; simp[results,Tryz.results25,go_sem, *]) rfl ⟨_,rfl,KeptNew.nil _ _,HB.out⟩
    ·have HX:Hid (kdecE s=4∧kdecG s=0∧kdecK s=zeroKept):=by
      have e:kdecE s=4:=by rw[HKD.out,if_pos (by simp)]
      exact⟨e,HKZ.out (by rw[e]; decide)⟩
     obtain⟨r0,r1,r2,r3,r4⟩:=q0.c5
     obtain⟨f0,f1,f2,f3,f4⟩:=q0.z5
     have HB:Hid (Below w.heap.size w _):=(((((hw3.setCell (p:=⟨w.heap.size,0,none⟩) (by simp) (.int .i64 0)).setCell (p:=⟨w.heap.size,1,none⟩) (by simp) (.int .i64 0)).setCell (p:=⟨w.heap.size,2,none⟩) (by simp) (.bool false)).setCell (p:=⟨w.heap.size,3,none⟩) (by simp) (.slice none 0 0)).setCell (p:=⟨w.heap.size,4,none⟩) (by simp) (.int .i64 0))
     clear q0 q7 hw3 hown HKD
     go_wp2_with fail
     rw[HX.out.1,HX.out.2.1,HX.out.2.2]
     exact bodyPost_ret (v := .tuple #[.agg #[.int .i64 0, .int .i64 0, .bool false, .slice none 0 0, .int .i64 0], .int .i64 0, .int .i64 4]) (by clear HB; simp[results,Tryz.results25,go_sem, *]) rfl ⟨_,rfl,KeptNew.nil _ _,HB.out⟩
   ·have t1:(z == 0)=false:=by simpa using hz0
    have t2:(z != 0)=true:=by simpa using hz0
    have HX:Hid (kdecE s=z∧kdecG s=0∧kdecK s=zeroKept):=by
     have e:kdecE s=z:=by rw[HKC.out,if_pos hz0]
     exact⟨e,HKZ.out (by rw[e]; exact hz0)⟩
    obtain⟨r0,r1,r2,r3,r4⟩:=q0.c5
    obtain⟨f0,f1,f2,f3,f4⟩:=q0.z5
    have HB:Hid (Below w.heap.size w _):=(((((hw3.setCell (p:=⟨w.heap.size,0,none⟩) (by simp) (.int .i64 0)).setCell (p:=⟨w.heap.size,1,none⟩) (by simp) (.int .i64 0)).setCell (p:=⟨w.heap.size,2,none⟩) (by simp) (.bool false)).setCell (p:=⟨w.heap.size,3,none⟩) (by simp) (.slice none 0 0)).setCell (p:=⟨w.heap.size,4,none⟩) (by simp) (.int .i64 0))
    clear q0 q7 hw3 hown HKC HRD hz0
    go_wp2_with fail
    rw[HX.out.1,HX.out.2.1,HX.out.2.2]
    exact bodyPost_ret (v := .tuple #[.agg #[.int .i64 0, .int .i64 0, .bool false, .slice none 0 0, .int .i64 0], .int .i64 0, .int .i64 z]) (by clear HB; simp[results,Tryz.results25,go_sem, *]) rfl ⟨_,rfl,KeptNew.nil _ _,HB.out⟩
  ·obtain⟨e1,e2⟩:=HN.out hy0
   rw[e1,e2] at HH
   have t1:(y == 0)=false:=by simpa using hy0
   have t2:(y != 0)=true:=by simpa using hy0
   have HX:Hid (kdecE s=y∧kdecG s=0∧kdecK s=zeroKept):=by
    have e:kdecE s=y:=by rw[HKB.out,if_pos hy0]
    exact⟨e,HKZ.out (by rw[e]; exact hy0)⟩
   clear HKB HO HN e1 e2 hy0 HKK HKZ
   unfold numCells at HH
   go_wp2_with fail
   refine (HH.out _).mono ?_
   rintro e w2 ⟨rfl,hb2⟩
   simp only[List.map_cons,List.map_nil]
   have d0:=(c0.below hb2 c0.lt).alloc (.cells #[.int .i64 0, .int .i64 0, .int .i64 0, .int .i64 0, .int .i64 0, .int .i64 0] 109)
   have hw2:=Below.up (Below.seq hw1 hb2) (.cells #[.int .i64 0, .int .i64 0, .int .i64 0, .int .i64 0, .int .i64 0, .int .i64 0] 109)
   clear c0 hw1 hb2 HH
   obtain⟨w3,hw3e⟩ : ∃ w3,w3=w2.alloc (.cells #[.int .i64 0, .int .i64 0, .int .i64 0, .int .i64 0, .int .i64 0, .int .i64 0] 109):=⟨_,rfl⟩
   go_upto_region 5 with fail
   rw[← hw3e] at d0 hw2 ⊢
   clear hw3e
   obtain⟨r0,r1,r2,r3,r4⟩:=d0.c5
   obtain⟨f0,f1,f2,f3,f4⟩:=d0.z5
   have HB:Hid (Below w.heap.size w _):=(((((hw2.setCell (p:=⟨w.heap.size,0,none⟩) (by simp) (.int .i64 0)).setCell (p:=⟨w.heap.size,1,none⟩) (by simp) (.int .i64 0)).setCell (p:=⟨w.heap.size,2,none⟩) (by simp) (.bool false)).setCell (p:=⟨w.heap.size,3,none⟩) (by simp) (.slice none 0 0)).setCell (p:=⟨w.heap.size,4,none⟩) (by simp) (.int .i64 0))
   clear d0 hw2
   go_wp2_with fail
   rw[HX.out.1,HX.out.2.1,HX.out.2.2]
   exact bodyPost_ret (v := .tuple #[.agg #[.int .i64 0, .int .i64 0, .bool false, .slice none 0 0, .int .i64 0], .int .i64 0, .int .i64 y]) (by clear HB; simp[results,Tryz.results25,go_sem, *]) rfl ⟨_,rfl,KeptNew.nil _ _,HB.out⟩
 ·have t1:(x == 0)=false:=by simpa using hx0
  have t2:(x != 0)=true:=by simpa using hx0
  have HX:Hid (kdecE s=x∧kdecG s=0∧kdecK s=zeroKept):=by
   have e:kdecE s=x:=by rw[HKU.out,if_neg hx0]
   exact⟨e,HKZ.out (by rw[e]; exact hx0)⟩
  obtain⟨r0,r1,r2,r3,r4⟩:=c0.c5
  obtain⟨f0,f1,f2,f3,f4⟩:=c0.z5
  have HB:Hid (Below w.heap.size w _):=(((((hw1.setCell (p:=⟨w.heap.size,0,none⟩) (by simp) (.int .i64 0)).setCell (p:=⟨w.heap.size,1,none⟩) (by simp) (.int .i64 0)).setCell (p:=⟨w.heap.size,2,none⟩) (by simp) (.bool false)).setCell (p:=⟨w.heap.size,3,none⟩) (by simp) (.slice none 0 0)).setCell (p:=⟨w.heap.size,4,none⟩) (by simp) (.int .i64 0))
  clear c0 hw1 HKU HUB HKZ HKK hx0
  go_wp2_with fail
  rw[HX.out.1,HX.out.2.1,HX.out.2.2]
  exact bodyPost_ret (v := .tuple #[.agg #[.int .i64 0, .int .i64 0, .bool false, .slice none 0 0, .int .i64 0], .int .i64 0, .int .i64 x]) (by clear HB; simp[results,Tryz.results25,go_sem, *]) rfl ⟨_,rfl,KeptNew.nil _ _,HB.out⟩

end Go.Proofs.YtmdgkjbiicaljahGreatDoor

/- The program's own stage.Load. -/
namespace Go.Proofs.YtmdgkjbiicaljahGreatDoor
open Go.RowKit
attribute [local go_sem] app_list ext_list get_list byteAt_zero

set_option maxRecDepth 4000 in
set_option maxHeartbeats 4000000 in
theorem stageLoad_any (l : List (List UInt8)) (v : Value) (w : World) (h : Strs w v l) :
  Calls Tryz.prog 12 #[v] w fun e w' => ∃ v',e = .returned (.tuple #[v', .int .i64 (loadG l), .int .i64 (loadA l), .int .i64 (loadE l)])∧KeptNew w' w.heap.size v' (loadK l)∧Below w.heap.size w w' := by
 obtain⟨a,c,rfl,hlx,hcx⟩:=h
 have b0:=Box.new w 44 [.int .i64 0, .int .i64 0, .bool false, .slice none 0 0, .int .i64 0]
 have hb:=below_alloc w (.cells #[.int .i64 0, .int .i64 0, .bool false, .slice none 0 0, .int .i64 0] 44)
 by_cases h2:l.length=2
 ·have HED:Hid ((ldG l 2 < 0→loadE l=13∧loadG l=0∧loadA l=0∧loadK l=zeroKept)∧(¬ ldG l 2 < 0→loadE l=0∧loadG l=ldG l 2∧loadA l=ldA l 2∧loadK l=ldK l 2)):=ld_end l h2
  have HI:Hid (LoadInv w (w.heap.size+1) (ldK l 0) (.slice none 0 0) ((w.alloc (.cells #[.int .i64 0, .int .i64 0, .bool false, .slice none 0 0, .int .i64 0] 44)).alloc (.cells #[.int .i64 0, .int .i64 0, .bool false, .slice none 0 0, .int .i64 0] 44))):=by
   obtain⟨c0,c1,hc⟩:=boxes2 w 44 44 [.int .i64 0, .int .i64 0, .bool false, .slice none 0 0, .int .i64 0] [.int .i64 0, .int .i64 0, .bool false, .slice none 0 0, .int .i64 0]
   exact⟨hc,c0,c1,World.ownsRow_nil _ _ _ _,by omega⟩
  rw[h2] at hcx hlx ⊢
  have HL2:Hid (l.length=2):=h2
  clear b0 hb h2
  go_enter Tryz.func12,Tryz.ntmps12
  go_wp2_with fail
  go_loopw [7,8,20] (fun g p i wr => ∃ (k:Nat) (vl:Value),k≤2∧i = .int .i64 k∧g = .int .i64 (ldG l k)∧p = .int .i64 (ldA l k)∧LoadInv w (w.heap.size+1) (ldK l k) vl wr) (fun _ _ i wr=>2 - (intOf i).toNat)
  case atStart=>exact⟨0,_,by omega,rfl,rfl,rfl,HI.out⟩
  case round =>
   clear HI
   obtain⟨k,vl,hk,rfl,rfl,rfl,I⟩:=hrel
   obtain⟨au,cu,rfl⟩:=own_formN I.row
   by_cases hlt:k < 2
   ·obtain⟨b,o,rfl,h1,h3⟩:=hcx k hlt
    have t0:=(I.below.cell (p:=⟨b,_,none⟩) (lt_of_cell h1)).trans h1
    have HD:Hid (∀ w,Calls _ _ _ w _):=fun w=>stageDec_any (l.getD k []) w (by omega)
    have HS:Hid (ldG l (k+1)=(if kdecE (l.getD k [])=0∧ldG l k < kdecG (l.getD k []) then kdecG (l.getD k []) else ldG l k)∧ldA l (k+1)=(if kdecE (l.getD k [])=0∧ldG l k < kdecG (l.getD k []) then (k:Int) else ldA l k)∧ldK l (k+1)=(if kdecE (l.getD k [])=0∧ldG l k < kdecG (l.getD k []) then kdecK (l.getD k []) else ldK l k)):=⟨rfl,rfl,rfl⟩
    have HII:Hid (LoadInv _ _ _ _ wr):=I
    have k0:(0:Int)≤(k:Int):=by omega
    have k1:(k:Int) < 2:=by omega
    clear I hcx h1
    obtain⟨gk,hgk⟩ : ∃ gk,ldG l k=gk:=⟨_,rfl⟩
    obtain⟨ak,hak⟩ : ∃ ak,ldA l k=ak:=⟨_,rfl⟩
    obtain⟨Kk,hKk⟩ : ∃ Kk,ldK l k=Kk:=⟨_,rfl⟩
    rw[hgk] at HS ⊢
    rw[hak] at HS ⊢
    rw[hKk] at HS HII
    obtain⟨s,hs⟩ : ∃ s,l.getD k []=s:=⟨_,rfl⟩
    rw[hs] at HS HD t0
    obtain⟨x,hx⟩ : ∃ x,kdecE s=x:=⟨_,rfl⟩
    obtain⟨y,hy⟩ : ∃ y,kdecG s=y:=⟨_,rfl⟩
    obtain⟨Kn,hKn⟩ : ∃ Kn,kdecK s=Kn:=⟨_,rfl⟩
    rw[hx,hy,hKn] at HS HD
    clear hgk hak hKk hs hx hy hKn h3
    go_wp2_with fail
    refine (HD.out _).mono ?_
    rintro e w4 ⟨v4,rfl,hn4,hb4⟩
    obtain⟨vl4,rfl,ho4⟩:=hn4
    obtain⟨a4,c4,rfl⟩:=own_formN ho4
    have J4:=HII.out.next (Below.up hb4 (.cells #[.int .i64 Kn.view, .int .i64 Kn.normal, .bool Kn.calm, .slice a4 Kn.log.length c4, .int .i64 Kn.commit] 44))
    have B10:=Box.new w4 44 [.int .i64 Kn.view, .int .i64 Kn.normal, .bool Kn.calm, .slice a4 Kn.log.length c4, .int .i64 Kn.commit]
    have O4:=own_base (base' := w.heap.size) (own_below ho4 (below_alloc w4 (.cells #[.int .i64 Kn.view, .int .i64 Kn.normal, .bool Kn.calm, .slice a4 Kn.log.length c4, .int .i64 Kn.commit] 44)) (own_lt ho4)) HII.out.below.size
    have n10:w.heap.size+1 < w4.heap.size:=by have:=HII.out.best.lt; have:=hb4.size; omega
    obtain⟨w5,hw5⟩ : ∃ w5,w5=w4.alloc (.cells #[.int .i64 Kn.view, .int .i64 Kn.normal, .bool Kn.calm, .slice a4 Kn.log.length c4, .int .i64 Kn.commit] 44):=⟨_,rfl⟩
    go_upto_region 9 with fail
    rw[← hw5] at J4 B10 O4 ⊢
    obtain⟨b10,hb10⟩ : ∃ b10,w4.heap.size=b10:=⟨_,rfl⟩
    rw[hb10] at B10 n10 ⊢
    clear hw5 hb10 HII HD hb4 ho4 t0
    have l10:=B10.lt
    by_cases hc:x=0∧gk < y
    ·have HS1:Hid (ldG l (k+1)=y∧ldA l (k+1)=k∧ldK l (k+1)=Kn):=by
      have:=HS.out
      rw[if_pos hc,if_pos hc,if_pos hc] at this
      exact this
     obtain⟨rfl,hgy⟩:=hc
     have d1:decide (gk < y)=true:=by simp[hgy]
     have HN:Hid (LoadInv _ _ _ _ _):=J4.take O4
     obtain⟨p0,p1,p2,p3,p4⟩:=B10.c5
     have RB:=J4.best
     obtain⟨r0,r1,r2,r3,r4⟩:=RB.c5
     obtain⟨f0,f1,f2,f3,f4⟩:=RB.z5
     have ne1 : ¬ b10=w.heap.size+1:=by omega
     clear B10 J4 O4 RB HS
     go_wp2_with fail
     go_roundw
     case rel=>exact⟨k+1,_,by omega,by go_num,by rw[HS1.out.1],by rw[HS1.out.2.1],by rw[HS1.out.2.2]; exact HN.out⟩
     case measure=>simp[intOf]; omega
    ·have HS1:Hid (ldG l (k+1)=gk∧ldA l (k+1)=ak∧ldK l (k+1)=Kk):=by
      have:=HS.out
      rw[if_neg hc,if_neg hc,if_neg hc] at this
      exact this
     have HN:Hid (LoadInv _ _ _ _ _):=J4
     clear B10 J4 O4 HS
     by_cases hx0:x=0
     ·subst hx0
      have d1:decide (gk < y)=false:=by simpa using hc
      clear hc
      go_wp2_with fail
      go_roundw
      case rel=>exact⟨k+1,_,by omega,by go_num,by rw[HS1.out.1],by rw[HS1.out.2.1],by rw[HS1.out.2.2]; exact HN.out⟩
      case measure=>simp[intOf]; omega
     ·have d1:(x == 0)=false:=by simpa using hx0
      clear hc hx0
      go_wp2_with fail
      go_roundw
      case rel=>exact⟨k+1,_,by omega,by go_num,by rw[HS1.out.1],by rw[HS1.out.2.1],by rw[HS1.out.2.2]; exact HN.out⟩
      case measure=>simp[intOf]; omega
   ·obtain rfl:k=2:=by omega
    have HII:Hid (LoadInv _ _ _ _ wr):=I
    clear I hcx hlt hk
    rw[show ((2:Nat):Int)=2 from rfl]
    obtain⟨gk,hgk⟩ : ∃ gk,ldG l 2=gk:=⟨_,rfl⟩
    obtain⟨ak,hak⟩ : ∃ ak,ldA l 2=ak:=⟨_,rfl⟩
    obtain⟨Kk,hKk⟩ : ∃ Kk,ldK l 2=Kk:=⟨_,rfl⟩
    rw[hgk] at HED ⊢
    rw[hak] at HED ⊢
    rw[hKk] at HED HII
    clear hgk hak hKk
    have RJ:=HII.out.res
    have hbJ:=HII.out.below
    by_cases hg:gk < 0
    ·have HX:Hid (loadE l=13∧loadG l=0∧loadA l=0∧loadK l=zeroKept):=HED.out.1 hg
     have d1:decide (gk < 0)=true:=by simp[hg]
     obtain⟨r0,r1,r2,r3,r4⟩:=RJ.c5
     obtain⟨f0,f1,f2,f3,f4⟩:=RJ.z5
     have HB:Hid (Below w.heap.size w _):=(((((hbJ.setCell (p:=⟨w.heap.size,0,none⟩) (by simp) (.int .i64 0)).setCell (p:=⟨w.heap.size,1,none⟩) (by simp) (.int .i64 0)).setCell (p:=⟨w.heap.size,2,none⟩) (by simp) (.bool false)).setCell (p:=⟨w.heap.size,3,none⟩) (by simp) (.slice none 0 0)).setCell (p:=⟨w.heap.size,4,none⟩) (by simp) (.int .i64 0))
     clear RJ hbJ HII HED hg
     go_wp2_with fail
     rw[HX.out.1,HX.out.2.1,HX.out.2.2.1,HX.out.2.2.2]
     exact bodyPost_ret (v := .tuple #[.agg #[.int .i64 0, .int .i64 0, .bool false, .slice none 0 0, .int .i64 0], .int .i64 0, .int .i64 0, .int .i64 13]) (by clear HB; simp[results,Tryz.results12,go_sem, *]) rfl ⟨_,rfl,KeptNew.nil _ _,HB.out⟩
    ·have HX:Hid (loadE l=0∧loadG l=gk∧loadA l=ak∧loadK l=Kk):=HED.out.2 (by omega)
     have d1:decide (gk < 0)=false:=by simpa using hg
     have HN:Hid (KeptNew _ _ _ _):=HII.out.kept
     have RB:=HII.out.best
     obtain⟨p0,p1,p2,p3,p4⟩:=RB.c5
     have lb:=RB.lt
     obtain⟨r0,r1,r2,r3,r4⟩:=RJ.c5
     obtain⟨f0,f1,f2,f3,f4⟩:=RJ.z5
     have HB:Hid (Below w.heap.size w _):=(((((hbJ.setCell (p:=⟨w.heap.size,0,none⟩) (by simp) (.int .i64 Kk.view)).setCell (p:=⟨w.heap.size,1,none⟩) (by simp) (.int .i64 Kk.normal)).setCell (p:=⟨w.heap.size,2,none⟩) (by simp) (.bool Kk.calm)).setCell (p:=⟨w.heap.size,3,none⟩) (by simp) (.slice au Kk.log.length cu)).setCell (p:=⟨w.heap.size,4,none⟩) (by simp) (.int .i64 Kk.commit))
     clear RJ hbJ RB HII HED hg
     go_wp2_with fail
     rw[HX.out.1,HX.out.2.1,HX.out.2.2.1,HX.out.2.2.2]
     exact bodyPost_ret (v := .tuple #[.agg #[.int .i64 Kk.view, .int .i64 Kk.normal, .bool Kk.calm, .slice au Kk.log.length cu, .int .i64 Kk.commit], .int .i64 gk, .int .i64 ak, .int .i64 0]) (by clear HB HN; simp[results,Tryz.results12,go_sem, *]) rfl ⟨_,rfl,HN.out,HB.out⟩
 ·have HX:Hid (loadE l=4∧loadG l=0∧loadA l=0∧loadK l=zeroKept):=load_form l h2
  have q2:((l.length:Int) == 2)=false:=by simp; omega
  have q3:((l.length:Int) != 2)=true:=by simp; omega
  have HB:Hid (Below w.heap.size w _):=hb
  clear b0 hb h2 hcx
  go_enter Tryz.func12,Tryz.ntmps12
  go_wp2_with fail
  rw[HX.out.1,HX.out.2.1,HX.out.2.2.1,HX.out.2.2.2]
  exact bodyPost_ret (v := .tuple #[.agg #[.int .i64 0, .int .i64 0, .bool false, .slice none 0 0, .int .i64 0], .int .i64 0, .int .i64 0, .int .i64 4]) (by clear HB; simp[results,Tryz.results12,go_sem, *]) rfl ⟨_,rfl,KeptNew.nil _ _,HB.out⟩

end Go.Proofs.YtmdgkjbiicaljahGreatDoor

/- Contracts of the library, laid at this dump. -/
namespace Go.Proofs
open Go.Shelf
def Tryz.lays169_ren : Go.Shelf.Ren := ⟨fun | 169 => 116 | n => n,fun | 70 => 186 | 9 => 9 | 0 => 0 | 72 => 188 | 37 => 183 | 127 => 209 | 3 => 3 | 5 => 5 | n => n,fun | n => n⟩
theorem Tryz.lays169 : Go.Proofs.Lays.n169 Tryz.prog Tryz.lays169_ren := {
 mixed:=by kernel_rfl
 f169:=Tryz.func116.trans (congrArg some (by kernel_rfl))
 t0:=Tryz.underlying0
 a0:=Tryz.isAgg0
 z0:=Tryz.sizeOf0
 v0:=Tryz.zeroValue0
 t3:=Tryz.underlying3
 a3:=Tryz.isAgg3
 z3:=Tryz.sizeOf3
 v3:=Tryz.zeroValue3
 t9:=Tryz.underlying9
 a9:=Tryz.isAgg9
 z9:=Tryz.sizeOf9
 v9:=Tryz.zeroValue9
 t37:=Tryz.underlying183
 a37:=Tryz.isAgg183
 z37:=Tryz.sizeOf183
 v37:=Tryz.zeroValue183
 t70:=Tryz.underlying186
 a70:=Tryz.isAgg186
 z70:=Tryz.sizeOf186
 v70:=Tryz.zeroValue186
 t72:=Tryz.underlying188
 a72:=Tryz.isAgg188
 z72:=Tryz.sizeOf188
 v72:=Tryz.zeroValue188
 t127:=Tryz.underlying209
 a127:=Tryz.isAgg209
 z127:=Tryz.sizeOf209
 v127:=Tryz.zeroValue209 }
theorem Tryz.Builder_Extra_169 : Builder.Extra Tryz.prog Tryz.lays169_ren := {
 sizeBuilder:=by kernel_rfl
 liesBuilder:=by kernel_rfl
 t5:=Tryz.underlying5
 a5:=Tryz.isAgg5
 z5:=Tryz.sizeOf5
 v5:=Tryz.zeroValue5
 infoByte:=by kernel_rfl
 cellsByte:=by kernel_rfl
 sizeByte:=by kernel_rfl
 neB5:=by decide }
open Go.RowKit in
theorem Tryz.Builder_String_any (B b : Nat) (l : List UInt8) (w : World) (h : Lib.IsBuilder 188 5 B b (Lib.byteCells l) w) (hBw : B ≤ w.heap.size) :
  Calls Tryz.prog 116 #[.pointer (some ⟨b,0,none⟩)] w fun e w' => e = .returned (.string ⟨l.toArray⟩)∧Below B w w' := Any.Builder_String_any Tryz.lays169 Tryz.Builder_Extra_169 B b l w h hBw
def Tryz.laysM171_ren : Go.Shelf.Ren := ⟨fun | 171 => 34 | 243 => 52 | 246 => 79 | 283 => 111 | 284 => 112 | 285 => 113 | 286 => 114 | 129 => 132 | 317 => 131 | 318 => 133 | 319 => 134 | 320 => 135 | 337 => 142 | 338 => 143 | n => n,fun | 3 => 3 | 9 => 9 | 2 => 2 | 4 => 4 | 171 => 179 | 0 => 0 | 53 => 180 | 37 => 183 | 5 => 5 | 173 => 184 | 212 => 205 | 51 => 206 | 20 => 20 | 213 => 207 | 46 => 146 | 232 => 216 | 233 => 217 | n => n,fun | 17 => 0 | 18 => 1 | 19 => 2 | n => n⟩
theorem Tryz.laysM171 : Go.Proofs.LaysM.n171 Tryz.prog Tryz.laysM171_ren := {
 mixed:=by kernel_rfl
 f129:=Tryz.func132.trans (congrArg some (by kernel_rfl))
 f171:=Tryz.func34.trans (congrArg some (by kernel_rfl))
 f243:=Tryz.func52.trans (congrArg some (by kernel_rfl))
 f246:=Tryz.func79.trans (congrArg some (by kernel_rfl))
 f283:=Tryz.func111.trans (congrArg some (by kernel_rfl))
 f284:=Tryz.func112.trans (congrArg some (by kernel_rfl))
 f285:=Tryz.func113.trans (congrArg some (by kernel_rfl))
 f286:=Tryz.func114.trans (congrArg some (by kernel_rfl))
 f317:=Tryz.func131.trans (congrArg some (by kernel_rfl))
 f318:=Tryz.func133.trans (congrArg some (by kernel_rfl))
 f319:=Tryz.func134.trans (congrArg some (by kernel_rfl))
 f320:=Tryz.func135.trans (congrArg some (by kernel_rfl))
 f337:=Tryz.func142.trans (congrArg some (by kernel_rfl))
 f338:=Tryz.func143.trans (congrArg some (by kernel_rfl))
 t0:=Tryz.underlying0
 a0:=Tryz.isAgg0
 z0:=Tryz.sizeOf0
 v0:=Tryz.zeroValue0
 t2:=Tryz.underlying2
 a2:=Tryz.isAgg2
 z2:=Tryz.sizeOf2
 v2:=Tryz.zeroValue2
 t3:=Tryz.underlying3
 a3:=Tryz.isAgg3
 z3:=Tryz.sizeOf3
 v3:=Tryz.zeroValue3
 t4:=Tryz.underlying4
 a4:=Tryz.isAgg4
 z4:=Tryz.sizeOf4
 v4:=Tryz.zeroValue4
 t5:=Tryz.underlying5
 a5:=Tryz.isAgg5
 z5:=Tryz.sizeOf5
 v5:=Tryz.zeroValue5
 t9:=Tryz.underlying9
 a9:=Tryz.isAgg9
 z9:=Tryz.sizeOf9
 v9:=Tryz.zeroValue9
 t20:=Tryz.underlying20
 a20:=Tryz.isAgg20
 z20:=Tryz.sizeOf20
 v20:=Tryz.zeroValue20
 t37:=Tryz.underlying183
 a37:=Tryz.isAgg183
 z37:=Tryz.sizeOf183
 v37:=Tryz.zeroValue183
 t46:=Tryz.underlying146
 a46:=Tryz.isAgg146
 z46:=Tryz.sizeOf146
 v46:=Tryz.zeroValue146
 t51:=Tryz.underlying206
 a51:=Tryz.isAgg206
 z51:=Tryz.sizeOf206
 v51:=Tryz.zeroValue206
 t53:=Tryz.underlying180
 a53:=Tryz.isAgg180
 z53:=Tryz.sizeOf180
 v53:=Tryz.zeroValue180
 t171:=Tryz.underlying179
 a171:=Tryz.isAgg179
 z171:=Tryz.sizeOf179
 v171:=Tryz.zeroValue179
 t173:=Tryz.underlying184
 a173:=Tryz.isAgg184
 z173:=Tryz.sizeOf184
 v173:=Tryz.zeroValue184
 t212:=Tryz.underlying205
 a212:=Tryz.isAgg205
 z212:=Tryz.sizeOf205
 v212:=Tryz.zeroValue205
 t213:=Tryz.underlying207
 a213:=Tryz.isAgg207
 z213:=Tryz.sizeOf207
 t232:=Tryz.underlying216
 a232:=Tryz.isAgg216
 z232:=Tryz.sizeOf216
 v232:=Tryz.zeroValue216
 t233:=Tryz.underlying217
 a233:=Tryz.isAgg217
 z233:=Tryz.sizeOf217
 v233:=Tryz.zeroValue217
 g17:=by kernel_rfl
 g18:=by kernel_rfl
 g19:=by kernel_rfl
 i0:=by kernel_rfl
 i2:=by kernel_rfl
 i3:=by kernel_rfl
 i4:=by kernel_rfl
 i5:=by kernel_rfl
 i9:=by kernel_rfl
 i20:=by kernel_rfl
 i37:=by kernel_rfl
 i46:=by kernel_rfl
 i51:=by kernel_rfl
 i53:=by kernel_rfl
 i171:=by kernel_rfl
 i173:=by kernel_rfl
 i212:=by kernel_rfl
 i232:=by kernel_rfl
 i233:=by kernel_rfl
 m17:=by kernel_rfl
 m18:=by kernel_rfl
 m19:=by kernel_rfl }
open Go.RowKit Go.Sort Go.Lib in
theorem Tryz.strconv_Itoa (n : Int) (h0 : -9223372036854775808 ≤ n) (h1 : n ≤ 9223372036854775807) (w : World) (htab : Lib.TabIs Tryz.prog w "internal/strconv.uint64pow10" .u64 Lib.pow10Tab) :
  Calls Tryz.prog 34 #[.int .i64 n] w fun e w' => e = .returned (.string ⟨(Lib.itoa n).toArray⟩) ∧ ∃ k os,w' = grow (w.drewN k) os:=Any.strconv_Itoa Tryz.laysM171 n h0 h1 w htab
end Go.Proofs

/- strings.Builder at this dump: copyCheck and WriteString, of a builder that the call has made. -/
namespace Go.Proofs.YtmdgkjbiicaljahGreatDoor
open Go.RowKit

theorem infoBuilder : Tryz.prog.info? 188 = some Tryz.t188 := by kernel_rfl
theorem sizeBuilder : Tryz.t188.size ≠ 0 := by decide +kernel
theorem liesBuilder : liesAt Tryz.prog Tryz.prog.depth 188 (2 / Tryz.prog.cellsOf 188) 0 188 1 = true := by kernel_rfl
theorem infoByte : Tryz.prog.info? 5 = some Tryz.t5 := by kernel_rfl
theorem zeroByte : Tryz.t5.zero = some (.int .u8 0) := by kernel_rfl
theorem sizeByte : Tryz.t5.size = 1 := by kernel_rfl
theorem bytesByte : Tryz.t5.bytes = 1 := by kernel_rfl

set_option maxHeartbeats 1000000 in
set_option maxRecDepth 10000 in
theorem bCheck_used (b : Nat) (w : World) (h0 : w.cell? ⟨b,0,none⟩ = some (.pointer (some ⟨b,0,none⟩))) :
  Calls Tryz.prog 136 #[.pointer (some ⟨b,0,none⟩)] w fun e w' => e = .returned (.tuple #[])∧w' = w:=by
 go_enter Tryz.func136,Tryz.ntmps136
 go_wp2
 rw[Lib.run_neq_ptr_same w _ Tryz.underlying186 infoBuilder]
 go_wp2
 go_end0
 exact⟨rfl,rfl⟩

set_option maxHeartbeats 1000000 in
set_option maxRecDepth 10000 in
theorem bCheck_fresh (b : Nat) (w : World) (h0 : w.cell? ⟨b,0,none⟩ = some (.pointer none)) (hsh : w.shape? b = some (188,2)) (hfz : w.frozen? ⟨b,0,none⟩ = false) :
  Calls Tryz.prog 136 #[.pointer (some ⟨b,0,none⟩)] w fun e w' => e = .returned (.tuple #[])∧w' = w.setCell ⟨b,0,none⟩ (.pointer (some ⟨b,0,none⟩)):=by
 go_enter Tryz.func136,Tryz.ntmps136
 go_wp2
 rw[Lib.run_to_unsafe w ⟨b,0,none⟩ Tryz.underlying186 Tryz.underlying214 infoBuilder sizeBuilder hsh (Nat.zero_lt_succ 1)]
 simp only[Result.andThen]
 rw[Oper.upon_value]
 go_wp2
 rw[run_callFunc_extern Tryz.func144 (by kernel_rfl) (by kernel_rfl) (by kernel_rfl) (e:=Extern.AbiNoEscape.same) (by kernel_rfl)]
 rw[Lib.run_noEscape]
 simp only[Result.andThen]
 rw[Oper.upon_value]
 go_wp2
 rw[Lib.run_from_unsafe w ⟨b,0,none⟩ Tryz.underlying214 Tryz.underlying186 infoBuilder hsh liesBuilder]
 simp only[Result.andThen]
 rw[Oper.upon_value]
 go_wp2
 go_end0
 exact⟨rfl,rfl⟩

theorem bCheck (B b : Nat) (bs : List Value) (w : World) (h : Lib.IsBuilder 188 5 B b bs w) :
  Calls Tryz.prog 136 #[.pointer (some ⟨b,0,none⟩)] w fun e w' => e = .returned (.tuple #[])∧(Lib.BuilderAt 188 5 B b (.pointer (some ⟨b,0,none⟩)) bs w' ∧ Below B w w'):=by
 rcases h with h | h
 ·refine (bCheck_fresh b w h.cell0 h.shape h.frozen0).mono ?_
  rintro e w' ⟨rfl,rfl⟩
  exact⟨rfl,h.used _,(Below.refl B w).setCell (p:=⟨b,0,none⟩) h.1 _⟩
 ·refine (bCheck_used b w h.cell0).mono ?_
  rintro e w' ⟨rfl,rfl⟩
  exact⟨rfl,h,Below.refl B _⟩

set_option maxHeartbeats 2000000 in
set_option maxRecDepth 10000 in
theorem bWriteString (B b : Nat) (bs : List Value) (s : ByteArray) (w : World) (h : Lib.IsBuilder 188 5 B b bs w) (hlen : bs.length + s.size ≤ 140737488355328) (hBw : B ≤ w.heap.size) :
  Calls Tryz.prog 115 #[.pointer (some ⟨b,0,none⟩), .string s] w fun e w' => e = .returned (.tuple #[.int .i64 s.size, .nilIface])∧(Lib.BuilderAt 188 5 B b (.pointer (some ⟨b,0,none⟩)) (bs ++ Lib.strCells s) w' ∧ Below B w w'):=by
 go_enter Tryz.func115,Tryz.ntmps115
 go_wp2_with (go_at_call 136; refine (bCheck B b bs _ h).mono ?_)
 rintro e w1 ⟨rfl,h1,hb1⟩
 obtain⟨hB,v,hbk,hown,hne⟩:=h1
 have c0:w1.cell? ⟨b,0,none⟩=some (.pointer (some ⟨b,0,none⟩)):=by rw[Lib.cell_of_heap hbk]; rfl
 have c1:w1.cell? ⟨b,1,none⟩=some v:=by rw[Lib.cell_of_heap hbk]; rfl
 go_wp2_with (at_builtin; refine Lib.wpList_append_own_string _ rfl _ _ 183 9 rfl B 5 Tryz.t5 Tryz.underlying183 Tryz.underlying9 infoByte zeroByte sizeByte bytesByte _ _ _ rfl hown s rfl ?c3 ?c4 ?c5 ?_)
 case c3=>unfold maxLen; omega
 case c4=>omega
 case c5=>have:=hb1.size; omega
 intro v' w2 hown' hgrow _
 have hlt:b < w1.heap.size:=by
  rcases Nat.lt_or_ge b w1.heap.size with h' | h'
  ·exact h'
  ·simp[Array.getElem?_eq_none h'] at hbk
 have hb2:w2.heap[b]? = some (.cells #[.pointer (some ⟨b,0,none⟩),v] 188 (0,0)):=by
  rw[hgrow.block b hlt (fun e=>hne e.symm)]
  exact hbk
 have d0:w2.cell? ⟨b,0,none⟩=some (.pointer (some ⟨b,0,none⟩)):=by rw[Lib.cell_of_heap hb2]; rfl
 have d1:w2.cell? ⟨b,1,none⟩=some v:=by rw[Lib.cell_of_heap hb2]; rfl
 have f1:w2.frozen? ⟨b,1,none⟩=false:=Lib.frozen_of_heap hb2 1
 obtain⟨ao,n',cap,rfl⟩ : ∃ ao n' cap,v' = .slice ao n' cap:=by
  rcases hown'.2 with ⟨hv,_⟩ | ⟨g,cap,cur,hv,_⟩
  ·exact⟨_,_,_,hv⟩
  ·exact⟨_,_,_,hv⟩
 go_wp2
 go_ret2
 refine⟨rfl, ?_, ?_⟩
 ·exact Lib.BuilderAt.put (T:=188) (e:=5) hB hb2 (bs' := bs ++ Lib.strCells s) (by simpa [Lib.strCells_length] using hown') (by decide)
 ·exact (hb1.grown hgrow (by have:=hb1.size; omega) (fun k hk=>(hown.lt k hk).1)).setCell (p:=⟨b,1,none⟩) hB _

end Go.Proofs.YtmdgkjbiicaljahGreatDoor

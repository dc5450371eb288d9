/- The program's own stage.Store. -/
import Derived.Test.YtmdgkjbiicaljahGreatDoorJointStageMath
import Derived.Test.YtmdgkjbiicaljahGreatDoorJointBuildGo
import Derived.Test.YtmdgkjbiicaljahGreatDoorJointKencGo
import Derived.Test.YtmdgkjbiicaljahGreatDoorJointReplMem
import Derived.Test.YtmdgkjbiicaljahGreatDoorTickGo
import Derived.Test.YtmdgkjbiicaljahGreatDoorJointRegPlan
set_option linter.unusedVariables false
set_option linter.unusedSimpArgs false
namespace Go.Proofs.YtmdgkjbiicaljahGreatDoor
open Go.RowKit
attribute [local go_sem] app_list ext_list get_list byteAt_zero

theorem other_any (p : Int) (w : World) (h : p = 0 ∨ p = 1) :
  Calls Tryz.prog 137 #[.int .i64 p] w fun e w' => e = .returned (.int .i64 (1 - p))∧w' = w:=by
 rcases h with rfl | rfl
 ·go_enter Tryz.func137,Tryz.ntmps137
  go_wp2_with fail
  go_ret
  exact⟨rfl,rfl⟩
 ·go_enter Tryz.func137,Tryz.ntmps137
  go_wp2_with fail
  go_ret
  exact⟨rfl,rfl⟩

theorem two_list (l : List (List UInt8)) (h : l.length = 2) : ∃ s0 s1,l = [s0,s1] := by
 match l,h with
 | [s0,s1],_=>exact⟨s0,s1,rfl⟩

set_option maxRecDepth 4000 in
set_option maxHeartbeats 4000000 in
theorem stageStore_any (l : List (List UInt8)) (v : Value) (K : KeptM) (vk : Value) (u : Int) (w : World) (h : Strs w v l) (hk : KeptAt w vk K) :
  Calls Tryz.prog 117 #[v,vk, .int .i64 u] w fun e w' => ∃ v',e = .returned (.tuple #[v', .int .i64 (storeE l K u)])∧w'.ownsRow w.heap.size 9 1 v' (storeL l K u).length ((storeL l K u).map enc)∧Below w.heap.size w w' := by
 have HL:Hid (∀ W,Below w.heap.size w W→Calls _ _ _ W _):=fun W hW=>stageLoad_any l _ W (h.below hW)
 have HE:Hid (∀ W,Below w.heap.size w W→Calls _ _ _ W _):=fun W hW=>stageEnc_any K (loadG l+1) _ W (hk.below hW)
 have HNO:Hid (storeE l K u≠0→storeL l K u = []):=store_no l K u
 have HSET:Hid (storeE l K u=0→storeL l K u=l.set (1 - loadA l).toNat (storeB K (loadG l+1) u)):=store_set l K u
 have HE1:Hid (loadE l≠0→storeE l K u=loadE l):=store_e1 l K u
 have HE2:Hid (loadE l=0→1073741824≤loadG l→storeE l K u=7):=store_e2 l K u
 have HE3:Hid (loadE l=0 → ¬ 1073741824≤loadG l→keptFault K≠0→storeE l K u=keptFault K):=store_e3 l K u
 have HE4:Hid (loadE l=0 → ¬ 1073741824≤loadG l→keptFault K=0→u < -1→storeE l K u=2):=store_e4 l K u
 have HE5:Hid (loadE l=0 → ¬ 1073741824≤loadG l→keptFault K=0 → ¬ u < -1→storeE l K u=0):=store_e5 l K u
 have HKN:Hid (¬ 1073741824≤loadG l→kencE K (loadG l+1)=keptFault K∧(keptFault K=0→kencS K (loadG l+1)=keptB K (loadG l+1))):=kenc_next K l
 have HLEN:Hid (loadE l=0→l.length=2):=by
  intro h0
  unfold loadE at h0
  split at h0
  ·assumption
  ·simp at h0
 have HBL:Hid (keptFault K=0→(keptB K (loadG l+1)).length≤3000):=keptB_len K (loadG l+1)
 have HSA:Hid (¬ (0≤u∧u≤(keptB K (loadG l+1)).length)→storeB K (loadG l+1) u=keptB K (loadG l+1)):=storeB_all K (loadG l+1) u
 have HSP:Hid (0≤u∧u≤(keptB K (loadG l+1)).length→storeB K (loadG l+1) u=(keptB K (loadG l+1)).take u.toNat):=storeB_part K (loadG l+1) u
 have hgb:=loadG_bd l
 have hpb:=loadA_bd l
 have HFK:Hid ((loadK l).log.length≤60):=(loadK_fits l).1
 obtain⟨E,hE⟩ : ∃ E,storeE l K u=E:=⟨_,rfl⟩
 obtain⟨R,hR⟩ : ∃ R,storeL l K u=R:=⟨_,rfl⟩
 rw[hE] at HNO HSET HE1 HE2 HE3 HE4 HE5 ⊢
 rw[hR] at HNO HSET ⊢
 obtain⟨x,hx⟩ : ∃ x,loadE l=x:=⟨_,rfl⟩
 obtain⟨g,hg⟩ : ∃ g,loadG l=g:=⟨_,rfl⟩
 obtain⟨p,hp⟩ : ∃ p,loadA l=p:=⟨_,rfl⟩
 obtain⟨LK,hLK⟩ : ∃ LK,loadK l=LK:=⟨_,rfl⟩
 rw[hx] at HL HE1 HE2 HE3 HE4 HE5 HLEN
 rw[hg] at HL HE HSET HE2 HE3 HE4 HE5 HKN HBL HSA HSP hgb
 rw[hp] at HL HSET hpb
 rw[hLK] at HL HFK
 obtain⟨f,hf⟩ : ∃ f,keptFault K=f:=⟨_,rfl⟩
 obtain⟨S,hS⟩ : ∃ S,keptB K (g+1)=S:=⟨_,rfl⟩
 obtain⟨D,hD⟩ : ∃ D,storeB K (g+1) u=D:=⟨_,rfl⟩
 rw[hf] at HE3 HE4 HE5 HKN HBL
 rw[hS] at HKN HBL HSA HSP
 rw[hD] at HSET HSA HSP
 clear hE hR hx hg hp hLK hf hS hD
 obtain⟨vl,rfl,hs⟩:=hk
 obtain⟨a1,c1,rfl,hlx1,hcx1⟩:=hs
 obtain⟨a,c,rfl,hlx,hcx⟩:=h
 clear hcx1 hlx1
 obtain⟨vw,nm,cm,lg,ct⟩:=K
 simp only at HE ⊢
 have b0:=Box.new w 44 [.int .i64 vw, .int .i64 nm, .bool cm, .slice a1 lg.length c1, .int .i64 ct]
 have hb:=below_alloc w (.cells #[.int .i64 vw, .int .i64 nm, .bool cm, .slice a1 lg.length c1, .int .i64 ct] 44)
 obtain⟨w0,hw0⟩ : ∃ w0,w0=w.alloc (.cells #[.int .i64 vw, .int .i64 nm, .bool cm, .slice a1 lg.length c1, .int .i64 ct] 44):=⟨_,rfl⟩
 go_enter Tryz.func117,Tryz.ntmps117
 go_upto_region 1 with fail
 rw[← hw0] at b0 hb ⊢
 clear hw0
 have HB0:Hid (Box w0 w.heap.size _ _):=b0
 have HW0:Hid (Below w.heap.size w w0):=hb
 clear b0 hb
 go_wp2_with fail
 refine (HL.out _ HW0.out).mono ?_
 rintro e w1 ⟨v1,rfl,hn1,hb1⟩
 obtain⟨a2,c2,rfl⟩:=hn1.form
 have b2:=(HB0.out.below hb1 HB0.out.lt).alloc (.cells #[.int .i64 LK.view, .int .i64 LK.normal, .bool LK.calm, .slice a2 LK.log.length c2, .int .i64 LK.commit] 44)
 have hw2:=Below.up (Below.far HW0.out hb1) (.cells #[.int .i64 LK.view, .int .i64 LK.normal, .bool LK.calm, .slice a2 LK.log.length c2, .int .i64 LK.commit] 44)
 obtain⟨w2,hw2e⟩ : ∃ w2,w2=w1.alloc (.cells #[.int .i64 LK.view, .int .i64 LK.normal, .bool LK.calm, .slice a2 LK.log.length c2, .int .i64 LK.commit] 44):=⟨_,rfl⟩
 go_upto_region 2 with fail
 rw[← hw2e] at b2 hw2 ⊢
 have HB2:Hid (Box w2 w.heap.size _ _):=b2
 have HW2:Hid (Below w.heap.size w w2):=hw2
 clear hw2e HB0 HW0 hn1 hb1 b2 hw2 HL
 by_cases hx0:x=0
 ·subst hx0
  by_cases hg1:1073741824≤g
  ·have HX:Hid (E=7∧R = []):=by
    have e:E=7:=HE2.out (by first | trivial | omega) (by first | trivial | omega)
    exact⟨e,HNO.out (by rw[e]; decide)⟩
   have d1:(g == 1073741824)=true:=by simp; omega
   clear hg1 HNO HSET HE1 HE2 HE3 HE4 HE5 HKN HLEN HBL HSA HSP hcx HE hpb HB2
   go_wp2_with fail
   go_ret2
   rw[HX.out.1,HX.out.2]
   exact⟨_,rfl,World.ownsRow_nil _ _ _ _,HW2.out⟩
  ·have d1:(g == 1073741824)=false:=by simp; omega
   obtain⟨k1,k2⟩:=HKN.out (by first | trivial | omega)
   rw[k1] at HE
   have hb2:=HB2.out
   obtain⟨x0,x1,x2,x3,x4⟩:=hb2.c5
   have lx:=hb2.lt
   have g1:(0:Int)≤g:=hgb.1
   have g2:g < 1073741824:=by omega
   clear hb2 HKN hgb
   by_cases hf0:f=0
   ·subst hf0
    rw[k2 rfl] at HE
    have hSl:=HBL.out (by first | trivial | omega)
    clear k1 k2
    go_wp2_with fail
    refine (HE.out _ HW2.out).mono ?_
    rintro e w3 ⟨rfl,hb3⟩
    have HW3:Hid (Below w.heap.size w w3):=Below.far HW2.out hb3
    clear hb3 HE HW2 HB2 x0 x1 x2 x3 x4
    by_cases hu:u < -1
    ·have HX:Hid (E=2∧R = []):=by
      have e:E=2:=HE4.out (by first | trivial | omega) (by first | trivial | omega) (by first | trivial | omega) hu
      exact⟨e,HNO.out (by rw[e]; decide)⟩
     have d2:decide (u < -1)=true:=by simp[hu]
     clear hg1 HNO HSET HE1 HE2 HE3 HE4 HE5 HLEN HBL HSA HSP hcx hpb
     go_wp2_with fail
     go_ret2
     rw[HX.out.1,HX.out.2]
     exact⟨_,rfl,World.ownsRow_nil _ _ _ _,HW3.out⟩
    ·have HEQ:Hid (E=0∧R=l.set (1 - p).toNat D):=by
      have e:E=0:=HE5.out (by first | trivial | omega) (by first | trivial | omega) (by first | trivial | omega) (by first | trivial | omega)
      exact⟨e,HSET.out e⟩
     obtain⟨s0,s1,rfl⟩:=two_list l (HLEN.out (by first | trivial | omega))
     obtain⟨bb,oo,rfl,t0,_⟩:=hcx 0 (by simp)
     obtain⟨bb',oo',ho,t1,_⟩:=hcx 1 (by simp)
     cases ho
     have m0:=(HW3.out.cell (p:=⟨bb,_,none⟩) (lt_of_cell t0)).trans t0
     have m1:=(HW3.out.cell (p:=⟨bb,_,none⟩) (lt_of_cell t1)).trans t1
     simp only[List.getD_cons_zero,List.getD_cons_succ,List.length_cons,List.length_nil,Nat.zero_add,Nat.reduceAdd,Nat.add_zero] at m0 m1 ⊢
     have key:(u = -1∧D=S)∨(0≤u∧S.take (min u (S.length:Int)).toNat=D):=by
      by_cases q1:u = -1
      ·exact Or.inl ⟨q1,HSA.out (by omega)⟩
      ·by_cases q2:(S.length:Int) < u
       ·refine Or.inr ⟨by omega, ?_⟩
        rw[HSA.out (by omega),show (min u (S.length:Int)).toNat=S.length by omega,List.take_length]
       ·refine Or.inr ⟨by omega, ?_⟩
        rw[HSP.out (by omega),show min u (S.length:Int)=u by omega]
     have d2:decide (u < -1)=false:=by simpa using hu
     clear hg1 HNO HSET HE1 HE2 HE3 HE4 HE5 HLEN HBL HSA HSP hcx t0 t1 hu
     have HOT:Hid (∀ w,Calls _ _ _ w _):=fun w=>other_any p w hpb
     have hz3:=HW3.out.size
     rcases key with ⟨rfl,rfl⟩ | ⟨q1,q3⟩
     all_goals
      go_upto_region 13 with fail
      go_cut [13] (fun x wx => ∃ b13,x = .slice (some ⟨b13,0,none⟩) 2 2∧Below w3.heap.size w3 wx∧Box wx b13 9 [.string ⟨s0.toArray⟩, .string ⟨s1.toArray⟩]∧w3.heap.size≤b13)
      case first =>
       go_region
       all_goals go_wp2_with fail
       all_goals go_meet
       all_goals exact⟨_,rfl,by (repeat (first | exact Below.refl _ _ | apply Below.drew | apply Below.up)),by first | exact Box.new _ _ _ | exact Box.new (World.drew _) _ _,by first | exact Nat.le_refl _ | simp⟩
      case rest =>
       obtain⟨b13,rfl,hbc,B13,g13⟩:=hcut
       have HWC:Hid (Below w.heap.size w wc):=Below.far HW3.out hbc
       clear hbc HW3 m0 m1
       go_wp2_with fail
       refine (HOT.out _).mono ?_
       rintro e w6 ⟨rfl,hw6⟩
       subst hw6
       have HO:Hid (∀ i,World.ownsRow _ _ _ _ _ _ _):=fun i=>own_set (own_box B13 (base:=w.heap.size) (by omega) 2 1 rfl (by decide)) i (.string ⟨D.toArray⟩)
       have HBB:Hid (∀ i,Below w.heap.size w _):=fun i=>HWC.out.setCell (p:=⟨b13,i,none⟩) (by simp; omega) (.string ⟨D.toArray⟩)
       obtain⟨y0,y1⟩:=B13.c2
       obtain⟨z0,z1⟩:=B13.z2
       have l13:=B13.lt
       clear B13 HWC HOT
       rcases hpb with rfl | rfl
       ·go_wp2_with fail
        go_ret2
        rw[HEQ.out.1,HEQ.out.2]
        exact⟨_,rfl,HO.out 1,HBB.out 1⟩
       ·go_wp2_with fail
        go_ret2
        rw[HEQ.out.1,HEQ.out.2]
        exact⟨_,rfl,HO.out 0,HBB.out 0⟩
   ·have t1:(f == 0)=false:=by simpa using hf0
    have t2:(f != 0)=true:=by simpa using hf0
    have HX:Hid (E=f∧R = []):=by
     have e:E=f:=HE3.out (by first | trivial | omega) (by first | trivial | omega) hf0
     exact⟨e,HNO.out (by rw[e]; exact hf0)⟩
    clear hg1 HNO HSET HE1 HE2 HE3 HE4 HE5 HLEN HBL HSA HSP hcx hpb hf0 k1 k2
    go_wp2_with fail
    refine (HE.out _ HW2.out).mono ?_
    rintro e w3 ⟨rfl,hb3⟩
    have HW3:Hid (Below w.heap.size w w3):=Below.far HW2.out hb3
    clear hb3 HE HW2 HB2 x0 x1 x2 x3 x4
    go_wp2_with fail
    go_ret2
    rw[HX.out.1,HX.out.2]
    exact⟨_,rfl,World.ownsRow_nil _ _ _ _,HW3.out⟩
 ·have t1:(x == 0)=false:=by simpa using hx0
  have t2:(x != 0)=true:=by simpa using hx0
  have HX:Hid (E=x∧R = []):=by
   have e:E=x:=HE1.out hx0
   exact⟨e,HNO.out (by rw[e]; exact hx0)⟩
  clear hx0 HNO HSET HE1 HE2 HE3 HE4 HE5 HKN HLEN HBL HSA HSP hcx HE hpb hgb HB2
  go_wp2_with fail
  go_ret2
  rw[HX.out.1,HX.out.2]
  exact⟨_,rfl,World.ownsRow_nil _ _ _ _,HW2.out⟩

end Go.Proofs.YtmdgkjbiicaljahGreatDoor

/- What a replica comes to, and what it sends, is of bounded size. -/
namespace Go.Proofs.YtmdgkjbiicaljahGreatDoor
open Go.RowKit

theorem texts_nil : TextsIn ([] : List (List UInt8)) := ⟨by simp,fun s hs => by simp at hs⟩
theorem zero_fits : ReplFits zeroRepl := ⟨texts_nil,by simp [zeroRepl],by simp [zeroRepl],by simp [zeroRepl],fun k hk => by simp [zeroRepl] at hk,by simp [zeroRepl]⟩
theorem forgot_fits (R : ReplM) (h : TextsIn R.kept.log) : ReplFits (forgot R) :=
 ⟨h,by simp[forgot],by simp[forgot],by simp[forgot],fun k hk=>by
  have:k=zeroKept:=by simpa [forgot] using hk
  subst this
  exact texts_nil,by simp[forgot]⟩
theorem wantR_fits (R : ReplM) (view : Int) (h : TextsIn R.kept.log) : ReplFits (wantR R view) :=
 ⟨h,by simp[wantR],by simp[wantR],by simp[wantR],fun k hk=>by
  have:k=zeroKept:=by simpa [wantR] using hk
  subst this
  exact texts_nil,by simp[wantR]⟩
theorem ReplFits.kept {R : ReplM} (h : ReplFits R) (K : KeptM) (hk : TextsIn K.log) (hav : List Int) (hl : hav.length = R.hav.length) (wants : List Bool) (hw : wants.length = R.wants.length) : ReplFits ⟨R.me,K,hav,wants,R.gives,R.given⟩ :=
 ⟨hk,by show hav.length * 8≤_; rw[hl]; exact h.hav,by show wants.length≤_; rw[hw]; exact h.wants,h.gives,h.each,h.given⟩
theorem withGive_fits {R : ReplM} (h : ReplFits R) (i : Nat) (K : KeptM) (hk : TextsIn K.log) : ReplFits (withGive R i K) :=
 ⟨h.log,h.hav,h.wants,by simp[withGive]; exact h.gives,fun k hm=>by
  rcases List.mem_or_eq_of_mem_set hm with hm | rfl
  ·exact h.each k hm
  ·exact hk,by simp[withGive]; exact h.given⟩
theorem own_fits {R : ReplM} (h : ReplFits R) : TextsIn (ownK R).log := h.log
theorem bestLog_fits {R : ReplM} (h : ReplFits R) : TextsIn (bestLog R) := by
 unfold bestLog
 rw[List.getD_eq_getElem?_getD]
 cases e:R.gives[(bestTo R 3).at_.toNat]? with
 | none=>exact texts_nil
 | some k=>exact h.each k (List.mem_of_getElem? e)
theorem beginR_fits {R : ReplM} (h : ReplFits R) : ReplFits (beginR R) := by
 unfold beginR
 split
 ·exact forgot_fits _ (bestLog_fits h)
 ·exact h
theorem hasR_fits {R : ReplM} (h : ReplFits R) (M : MsgM) : ReplFits (hasR R M) := by
 unfold hasR
 split
 ·refine h.kept _ ?_ _ ?_ _ rfl
  ·exact h.log
  ·rw[List.length_set]
 ·exact h
theorem wishR_fits {R : ReplM} (h : ReplFits R) (M : MsgM) : ReplFits (wishR R M) := by
 unfold wishR
 split
 ·exact wantR_fits _ _ h.log
 ·exact h
theorem gaveR_fits {R : ReplM} (h : ReplFits R) (M : MsgM) (hm : TextsIn M.log) : ReplFits (gaveR R M) := by
 unfold gaveR
 split
 ·exact withGive_fits h _ _ hm
 ·exact withGive_fits (withGive_fits h _ _ (own_fits h)) _ _ hm
theorem takeR_fits {R : ReplM} (h : ReplFits R) (s : List UInt8) (hs : s.length ≤ 140737488355328) : ReplFits (takeR R s) := by
 unfold takeR
 split
 ·rename_i h0
  have hl:R.kept.log.length < 60:=by
   unfold takeE at h0
   split at h0
   ·contradiction
   ·split at h0
    ·omega
    ·split at h0
     ·omega
     ·omega
  refine h.kept _ ⟨?_,fun t ht => ?_⟩ _ rfl _ rfl
  ·simp only[List.length_append,List.length_singleton]; omega
  ·rcases List.mem_append.1 ht with ht | ht
   ·exact h.log.2 t ht
   ·rw[List.mem_singleton.1 ht]; exact hs
 ·exact zero_fits

/-- Few messages, their texts in bounds. -/
def MsgsFew (n : Nat) (L : List MsgM) : Prop := L.length ≤ n ∧ ∀ m ∈ L,TextsIn m.log
theorem MsgsFew.app {n k : Nat} {L K : List MsgM} (h : MsgsFew n L) (g : MsgsFew k K) : MsgsFew (n + k) (L ++ K) :=
 ⟨by rw[List.length_append]; have:=h.1; have:=g.1; omega,fun m hm=>(List.mem_append.1 hm).elim (h.2 m) (g.2 m)⟩
theorem MsgsFew.more {n k : Nat} {L : List MsgM} (h : MsgsFew n L) (hk : n ≤ k) : MsgsFew k L := ⟨Nat.le_trans h.1 hk,h.2⟩
theorem few_nil : MsgsFew 0 [] := ⟨by simp,fun m hm => by simp at hm⟩
theorem toAll_few (R : ReplM) (k c : Int) (l : List (List UInt8)) (h : TextsIn l) : MsgsFew 3 (toAll R k c l) := by
 have hl:(others R.me).length≤3:=by unfold others; exact List.length_filter_le _ _
 refine⟨by unfold toAll; rw[List.length_map]; omega,fun m hm => ?_⟩
 unfold toAll at hm
 obtain⟨i,_,rfl⟩:=List.mem_map.1 hm
 exact h
theorem ledBy_few {R : ReplM} (h : ReplFits R) : MsgsFew 3 (ledBy R) := toAll_few _ _ _ _ h.log
theorem hasMsg_few (R : ReplM) (i : Int) : MsgsFew 3 [hasMsg R i] := ⟨by simp,fun m hm => by rw [List.mem_singleton.1 hm]; exact texts_nil⟩
theorem wantL_few (R : ReplM) (view : Int) : MsgsFew 3 (wantL R view) := toAll_few _ _ _ _ texts_nil
theorem beginL_few {R : ReplM} (h : ReplFits R) : MsgsFew 3 (beginL R) := by
 unfold beginL
 split
 ·exact ledBy_few (beginR_fits h)
 ·exact few_nil.more (by omega)
theorem hasL_few {R : ReplM} (h : ReplFits R) (M : MsgM) : MsgsFew 3 (hasL R M) := by
 unfold hasL
 split
 ·split
  ·exact ledBy_few (hasR_fits h M)
  ·exact few_nil.more (by omega)
 ·exact few_nil.more (by omega)
theorem wantedL_few {R : ReplM} (h : ReplFits R) (M : MsgM) : MsgsFew 3 (wantedL R M) := by
 have h1:=h.kept R.kept h.log R.hav rfl (R.wants.set M.frm.toNat true) (List.length_set ..)
 unfold wantedL
 split
 ·exact few_nil.more (by omega)
 ·dsimp only
  generalize (⟨R.me,R.kept,R.hav,R.wants.set M.frm.toNat true,R.gives,R.given⟩:ReplM)=r1 at *
  split
  ·exact beginL_few (withGive_fits h1 _ _ (own_fits h1))
  ·exact⟨by simp,fun m hm=>by rw[List.mem_singleton.1 hm]; exact h.log⟩
theorem wishL_few (R : ReplM) (M : MsgM) : MsgsFew 3 (wishL R M) := by
 unfold wishL
 split
 ·exact wantL_few _ _
 ·exact few_nil.more (by omega)
theorem giveL_few {R : ReplM} (h : ReplFits R) (M : MsgM) (hm : TextsIn M.log) : MsgsFew 3 (giveL R M) := by
 unfold giveL
 split
 ·exact few_nil.more (by omega)
 ·exact beginL_few (gaveR_fits h M hm)
theorem hearL_few {R : ReplM} (h : ReplFits R) (M : MsgM) (hm : TextsIn M.log) : MsgsFew 6 (hearL R M) := by
 unfold hearL
 split
 ·unfold hearL'
  split
  ·exact (hasMsg_few _ _).more (by omega)
  ·split
   ·exact (hasL_few h M).more (by omega)
   ·split
    ·exact (wishL_few R M).app (wantedL_few (wishR_fits h M) M)
    ·exact (wishL_few R M).app (giveL_few (wishR_fits h M) M hm)
 ·exact few_nil.more (by omega)
theorem tickL_few {R : ReplM} (h : ReplFits R) : MsgsFew 6 (tickL R) := by
 unfold tickL
 split
 ·unfold tickL'
  split
  ·exact (ledBy_few h).more (by omega)
  ·split
   ·exact (hasMsg_few _ _).more (by omega)
   ·exact (toAll_few _ _ _ _ texts_nil).more (by omega)
 ·exact few_nil.more (by omega)
theorem alarmL_few (R : ReplM) : MsgsFew 6 (alarmL R) := by
 unfold alarmL
 split
 ·exact (wantL_few _ _).more (by omega)
 ·exact few_nil.more (by omega)
theorem takeL_few {R : ReplM} (h : ReplFits R) (s : List UInt8) (hs : s.length ≤ 140737488355328) : MsgsFew 6 (takeL R s) := by
 have hf:=takeR_fits h s hs
 unfold takeR at hf
 unfold takeL
 split
 ·rename_i h0
  rw[if_pos h0] at hf
  exact (ledBy_few hf).more (by omega)
 ·exact few_nil.more (by omega)

end Go.Proofs.YtmdgkjbiicaljahGreatDoor

/- The program's own: store what a replica keeps. -/
namespace Go.Proofs.YtmdgkjbiicaljahGreatDoor
open Go.RowKit

theorem cell_other {w : World} {g i b j : Nat} {v : Value} (h : b ≠ g ∨ j ≠ i) : (w.setCell ⟨g,i,none⟩ v).cell? ⟨b,j,none⟩ = w.cell? ⟨b,j,none⟩ := by
 apply World.cell?_setCell_other
 intro e
 simp only[Addr.mk.injEq] at e
 rcases h with h | h
 ·exact h e.1.symm
 ·exact h e.2.1.symm
/-- What a step of the script leaves as it was: all below B; the blocks that aren't the world's own; what lies in rows of texts, numbers, bools and of what is kept. -/
structure Goes (w w' : World) (B b : Nat) : Prop where
 below:Below B w w'
 leaves:Leaves 87 b w w'
 keeps:Keeps w w'
 code:w'.cell? ⟨b,5,none⟩=w.cell? ⟨b,5,none⟩
theorem Goes.trans {u v w : World} {B b : Nat} (h : Goes u v B b) (k : Goes v w B b) : Goes u w B b := ⟨h.below.trans k.below,h.leaves.trans k.leaves,h.keeps.trans k.keeps,k.code.trans h.code⟩
theorem Goes.of {w w' : World} {B b : Nat} {cs : List Value} (hx : Box w b 87 cs) (hB : B ≤ w.heap.size) (h : Below w.heap.size w w') : Goes w w' B b := ⟨h.mono hB,Leaves.below hx h,Keeps.below h,h.cell (p := ⟨b,5,none⟩) hx.lt⟩
theorem Goes.net {w w' : World} {B b : Nat} {N : NetM} (hx : NetAt w B b N) (hB : B ≤ w.heap.size) (h : Below w.heap.size w w') : Goes w w' B b := by
 obtain⟨_,_,_,_,_,_,hb,_⟩:=hx
 exact Goes.of hb hB h
theorem Stay.keeps {ts : List TypeId} {w w' : World} (h : Stay ts w w') (ht : 9 ∉ ts ∧ 3 ∉ ts ∧ 4 ∉ ts ∧ 44 ∉ ts) : Keeps w w' := by
 obtain⟨t2,t3,t4,t5⟩:=ht
 intro b e s x m xs he r
 exact h b e s x m xs (by rcases he with rfl | rfl | rfl | rfl <;> assumption) r
theorem leaves_row {w w' : World} {b g : Nat} {cs cs' : List Value} (hx : Box w b 87 cs) (hx' : Box w' b 87 cs') (hs : w.heap.size ≤ w'.heap.size) (hg : ∃ c ∈ cs,c.ownBlock = some g) (hc : ∀ c ∈ cs',∀ k,c.ownBlock = some k → w.heap.size ≤ k ∨ ∃ c0 ∈ cs,c0.ownBlock = some k)
  (hb : ∀ k,k≠g→k≠b→w'.heap[k]? = w.heap[k]?):Leaves 87 b w w' :=
 Leaves.of hx hx' hs hc fun k hk hkb hcs=>hb k (fun e=>by
  obtain⟨c,hm,hv⟩:=hg
  exact hcs c hm (by rw[hv,e])) hkb
theorem NetRows.slot {w : World} {B b g cap : Nat} {N : NetM} {vr vf vc vt vk : Value} {n : Nat} (h : NetRows w B N vr (.slice (some ⟨g,0,none⟩) n cap) vf vc vt vk) (hx : Box w b 87 [vr, .slice (some ⟨g,0,none⟩) n cap,vf,vc,vt,vk]) (hB : B ≤ g) (i : Nat) (hi : i < N.slots.length) (s : List (List UInt8)) (vl : Value) (ho : w.ownsRow B 9 1 vl s.length (s.map enc)) :
  NetAt (w.setCell ⟨g,i,none⟩ vl) B b (slotN N i s)∧Goes w (w.setCell ⟨g,i,none⟩ vl) B b:=by
 obtain⟨p1,p2⟩:=h.s.put i hi s vl ho
 have hne:b≠g:=fun e=>by
  obtain⟨ss,_,h2,_⟩:=h.s
  exact own_type h2 hx (by decide) (congrArg some e.symm)
 refine⟨⟨vr,_,vf,vc,vt,vk,hx.other _ hne,h.r.stay p2 (by decide),p1,h.f.stay p2 (by decide),h.c.stay p2 (by decide),h.t.stay p2 (by decide),h.k.stay p2 (by decide)⟩, ?_, ?_,p2.keeps (by decide),cell_other (Or.inl hne)⟩
 ·exact Below.setCell (Below.refl _ _) hB _
 ·exact leaves_row (g:=g) hx (hx.other _ hne) (by simp) ⟨.slice (some ⟨g,0,none⟩) n cap,by simp,rfl⟩ (fun c hc k e=>Or.inr ⟨c,hc,e⟩) fun k hk _=>Below.heap_setCell _ _ _ _ hk

set_option maxRecDepth 4000 in
set_option maxHeartbeats 4000000 in
theorem storeN_any (B b i : Nat) (N : NetM) (R : ReplM) (v : Value) (u : Int) (w : World) (h : NetAt w B b N) (hr : ReplNew w B v R) (hf : ReplFits R) (hi : i < N.slots.length) (hm : R.me = i) (hz : TextsIn (N.slot i)) (hE : storeE (N.slot i) R.kept u = 0) (hB : B ≤ w.heap.size) :
  Calls Tryz.prog 91 #[.pointer (some ⟨b,0,none⟩),v, .int .i64 u] w fun e w' => e = .returned (.int .i64 0)∧NetAt w' B b (slotN N i (storeL (N.slot i) R.kept u))∧Goes w w' B b:=by
 have HRA:Hid (∀ W,Below w.heap.size w W→ReplAt W v R):=fun W hW=>(hr.at hf).below hW
 obtain⟨al,cl,ah,ch,aw,cw,ag,cg,an,cn,rfl⟩:=hr.form
 obtain⟨me,K,hav,wants,gives,given⟩:=R
 simp only at hm
 subst hm
 simp only at *
 obtain⟨vr,vs,vf,vc,vt,vk,hx,hrows⟩:=h
 obtain⟨g,cap,vl,rfl,hg,ho,hc,hfz⟩:=hrows.s.read i hi (N.slot i) rfl
 have HKA:Hid (∀ W,Below w.heap.size w W→KeptAt W (.agg #[.int .i64 K.view, .int .i64 K.normal, .bool K.calm, .slice al K.log.length cl, .int .i64 K.commit]) K):=fun W hW=>by
  obtain⟨vl',vh,vw,vg,vn,e,h1,_⟩:=HRA.out W hW
  simp only[replCells,Value.agg.injEq,Array.mk.injEq,List.cons.injEq,and_true,true_and] at e
  obtain⟨rfl,_⟩:=e
  exact⟨_,rfl,h1⟩
 have HSL:Hid (∀ W,Below w.heap.size w W→Strs W vl (N.slot i)):=fun W hW=>(Strs.of_own ho (by have:=hz.1; omega) hz.2).below hW
 have bm:=Box.new w 49 [.int .i64 i, .int .i64 K.view, .int .i64 K.normal, .bool K.calm, .slice al K.log.length cl, .int .i64 K.commit, .slice ah hav.length ch, .slice aw wants.length cw, .slice ag gives.length cg, .slice an given.length cn]
 obtain⟨w0,hw0⟩ : ∃ w0,w0=w.alloc (.cells #[.int .i64 i, .int .i64 K.view, .int .i64 K.normal, .bool K.calm, .slice al K.log.length cl, .int .i64 K.commit, .slice ah hav.length ch, .slice aw wants.length cw, .slice ag gives.length cg, .slice an given.length cn] 49):=⟨_,rfl⟩
 have hb0:Below w.heap.size w w0:=by rw[hw0]; exact below_alloc _ _
 have hs0:w0.heap.size=w.heap.size+1:=by rw[hw0]; simp
 rw[← hw0] at bm
 have HX:Hid (Box w0 b _ _):=hx.below hb0 hx.lt
 have HX0:Hid (Box w b _ _):=hx
 have HR:Hid (NetRows w0 B N _ _ _ _ _ _):=hrows.below hb0
 have HBM:Hid (Box w0 w.heap.size _ _):=bm
 have HB0:Hid (Below w.heap.size w w0):=hb0
 have HS0:Hid (w0.heap.size=w.heap.size+1):=hs0
 have HC:Hid (w0.cell? ⟨g,i,none⟩=some vl):=hb0.cell (p:=⟨g,i,none⟩) (lt_of_cell hc) |>.trans hc
 have HG:Hid (B≤g):=hg
 have HE:Hid (storeE (N.slot i) K u=0):=hE
 have k0:(0:Int)≤(i:Int):=by omega
 have k1:(i:Int) < (N.slots.length:Int):=by omega
 clear hx hrows hb0 hs0 bm hc hfz hg ho hr HRA hE
 go_enter Tryz.func91,Tryz.ntmps91
 go_upto_region 1 with fail
 rw[← hw0]
 clear hw0
 refine wp_region_plan [0,0,0,0,0,0,0,0,0,0,0,0,1,1,2,2,3,4] (.free 0 (.line 1 (.free 2 (.line 3 (.done 4))))) (by kernel_rfl) (by kernel_rfl) (fun h=>h) (Below w0.heap.size w0) (Below.refl _ _) (fun V n hV=>below_drewN n hV) fun n0 => ?_
 refine wpPlan_free (by kernel_rfl) ?_
 apply Exists.intro
 refine⟨?_, ?_⟩
 ·intro V hV
  have bx:=HX.out.below hV HX.out.lt
  have by' := HBM.out.below hV HBM.out.lt
  obtain⟨x0,x1,x2,x3,x4,x5⟩:=bx.c6
  obtain⟨y0,y1,y2,y3,y4,y5,y6,y7,y8,y9⟩:=by'.c10
  have t0:=hV.cell (p:=⟨g,i,none⟩) (lt_of_cell HC.out) |>.trans HC.out
  simp only[sel,↓reduceIte,Nat.reduceEqDiff]
  repeat (go_big_quiet_step (fail))
  refine wpQuiet_nil ?_
  rfl
 ·intro n
  refine wpPlan_line ?_
  simp only[sel,↓reduceIte,Nat.reduceEqDiff]
  refine wpEarly_cons ?_
  go_wp2_with fail
  refine (stageStore_any (N.slot i) vl K _ u _ (HSL.out _ (below_drewN (n0+n) HB0.out)) (HKA.out _ (below_drewN (n0+n) HB0.out))).mono ?_
  rintro e w2 ⟨v2,rfl,ho2,hb2⟩
  obtain⟨a2,c2,rfl⟩:=own_form ho2
  rw[HE.out]
  have hbw:Below w0.heap.size w0 w2:=⟨hb2.os,hb2.tape,hb2.output,hb2.size,hb2.block⟩
  have HB2:Hid (Below w0.heap.size w0 w2):=hbw
  have HO2:Hid (w2.ownsRow w0.heap.size _ _ _ _ _):=ho2
  clear ho2 hb2
  go_wp2_with fail
  refine wpEarly_next hbw fun m => ?_
  refine wpEarly_cons ?_
  go_wp2_with fail
  refine wpEarly_next (below_drewN m hbw) fun m2 => ?_
  refine wpEarly_nil ?_
  refine wpPlan_free (by kernel_rfl) ?_
  apply Exists.intro
  refine⟨?_, ?_⟩
  ·intro V hV
   simp only[sel,↓reduceIte,Nat.reduceEqDiff]
   repeat (go_big_quiet_step (fail))
   refine wpQuiet_nil ?_
   rfl
  intro n4
  refine wpPlan_line ?_
  simp only[sel,↓reduceIte,Nat.reduceEqDiff]
  refine wpEarly_cons ?_
  go_wp2_with fail
  refine wpEarly_next (below_drewN _ (below_drewN _ (below_drewN _ hbw))) fun m5 => ?_
  refine wpEarly_nil ?_
  refine wpPlan_done ?_
  simp only[sel,↓reduceIte,Nat.reduceEqDiff]
  clear hbw
  obtain⟨w3,hw3⟩ : ∃ w3,w3=(((w2.drewN m).drewN m2).drewN n4).drewN m5:=⟨_,rfl⟩
  have HB3:Hid (Below w0.heap.size w0 w3):=by rw[hw3]; exact below_drewN _ (below_drewN _ (below_drewN _ (below_drewN _ HB2.out)))
  have HO3:Hid (w3.ownsRow w0.heap.size 9 1 (.slice a2 (storeL (N.slot i) K u).length c2) (storeL (N.slot i) K u).length ((storeL (N.slot i) K u).map enc)):=by rw[hw3]; exact own_drewN _ (own_drewN _ (own_drewN _ (own_drewN _ HO2.out)))
  rw[← hw3]
  clear hw3 HO2 HB2
  obtain⟨S,hS⟩ : ∃ S,storeL (N.slot i) K u=S:=⟨_,rfl⟩
  have HSE:Hid (storeL (N.slot i) K u=S):=hS
  rw[hS] at HO3 ⊢
  clear hS
  go_upto_region 4 with fail
  refine wp_region_plan [0,0,0,0,0,0,0,0,0,1] (.free 0 (.done 1)) (by kernel_rfl) (by kernel_rfl) (fun h=>h) (Below w3.heap.size w3) (Below.refl _ _) (fun V n hV=>below_drewN n hV) fun n0 => ?_
  refine wpPlan_free (by kernel_rfl) ?_
  apply Exists.intro
  refine⟨?_, ?_⟩
  ·intro V hV
   have bx:=(HX.out.below HB3.out HX.out.lt).below hV (HX.out.below HB3.out HX.out.lt).lt
   have by' := (HBM.out.below HB3.out HBM.out.lt).below hV (HBM.out.below HB3.out HBM.out.lt).lt
   obtain⟨x0,x1,x2,x3,x4,x5⟩:=bx.c6
   obtain⟨y0,y1,y2,y3,y4,y5,y6,y7,y8,y9⟩:=by'.c10
   simp only[sel,↓reduceIte,Nat.reduceEqDiff]
   repeat (go_big_quiet_step (fail))
   refine wpQuiet_nil ?_
   rfl
  intro n5
  refine wpPlan_done ?_
  simp only[sel,↓reduceIte,Nat.reduceEqDiff]
  obtain⟨w4,hw4⟩ : ∃ w4,w4=(w3.drewN n0).drewN n5:=⟨_,rfl⟩
  have HB4:Hid (Below w0.heap.size w0 w4):=by rw[hw4]; exact below_drewN _ (below_drewN _ HB3.out)
  have HO4:Hid (w4.ownsRow w0.heap.size 9 1 (.slice a2 S.length c2) S.length (S.map enc)):=by rw[hw4]; exact own_drewN _ (own_drewN _ HO3.out)
  rw[← hw4]
  clear hw4
  have HR4:Hid (NetRows w4 B N _ _ _ _ _ _):=HR.out.below HB4.out
  have HX4:Hid (Box w4 b _ _):=HX.out.below HB4.out HX.out.lt
  obtain⟨g',cap',vl',e,_,_,hc4,hf4⟩:=HR4.out.s.read i hi (N.slot i) rfl
  simp only[Value.slice.injEq,Option.some.injEq,Addr.mk.injEq,and_true,true_and] at e
  obtain⟨rfl,rfl⟩:=e
  have HE4:Hid (NetAt (w4.setCell ⟨g,i,none⟩ (.slice a2 S.length c2)) B b (slotN N i S)∧Goes w (w4.setCell ⟨g,i,none⟩ (.slice a2 S.length c2)) B b):=by
   obtain⟨q1,q2⟩:=HR4.out.slot HX4.out HG.out i hi S (.slice a2 S.length c2) (own_base HO4.out (by have:=HS0.out; omega))
   exact⟨q1,((Goes.of HX0.out hB HB0.out).trans (Goes.of HX.out (by have:=HS0.out; omega) HB4.out)).trans q2⟩
  clear HR4 HX4 HO4 HB4 HO3 HB3
  go_wp2_with fail
  go_ret
  rw[HSE.out]
  exact⟨rfl,HE4.out⟩

end Go.Proofs.YtmdgkjbiicaljahGreatDoor

/- The script's world: a replica is another one; messages more are on their way. -/
namespace Go.Proofs.YtmdgkjbiicaljahGreatDoor
open Go.RowKit

theorem NetRows.repl {w : World} {B b g cap : Nat} {N : NetM} {vs vf vc vt vk : Value} {n : Nat} (h : NetRows w B N (.slice (some ⟨g,0,none⟩) n cap) vs vf vc vt vk) (hx : Box w b 87 [.slice (some ⟨g,0,none⟩) n cap,vs,vf,vc,vt,vk]) (hB : B ≤ g) (i : Nat) (hi : i < N.repls.length) (R : ReplM) (vl vh vw vg vn : Value) (ps : List (KeptM × Value)) (ho : ReplOwn w B R vl vh vw vg vn ps) :
  NetAt (setAll w g (i * 10) (replCells R vl vh vw vg vn)) B b (replN N i R)∧Goes w (setAll w g (i * 10) (replCells R vl vh vw vg vn)) B b:=by
 obtain⟨p1,p2⟩:=h.r.put i hi R vl vh vw vg vn ps ho
 have hne:b≠g:=fun e=>by
  obtain⟨ss,_,h2,_⟩:=h.r
  exact own_type h2 hx (by decide) (congrArg some e.symm)
 have hx' := hx.setAll_other hne (replCells R vl vh vw vg vn) (i * 10)
 refine⟨⟨_,vs,vf,vc,vt,vk,hx',p1,h.s.stay p2 (by decide),h.f.stay p2 (by decide),h.c.stay p2 (by decide),h.t.stay p2 (by decide),h.k.stay p2 (by decide)⟩, ?_, ?_,p2.keeps (by decide),setAll_cell_other _ _ _ hne⟩
 ·have:=setAll_beside_up (b:=b) hB (replCells R vl vh vw vg vn) w w (i * 10) (Beside.refl B b w)
  exact⟨this.os,this.tape,this.output,this.size,fun k hk=>setAll_heap_other (by omega) _ _ _⟩
 ·exact leaves_row (g:=g) hx hx' (Nat.le_of_eq (setAll_size _ _ _).symm) ⟨.slice (some ⟨g,0,none⟩) n cap,by simp,rfl⟩ (fun c hc k e=>Or.inr ⟨c,hc,e⟩) fun k hk _=>setAll_heap_other hk _ _ _

/-- A row is a longer one now, and the world's struct names it. -/
theorem grown_goes {w wB : World} {B b i size n : Nat} {t : TypeId} {xs cs : List Value} {vf v' : Value} (hx : Box w b 87 cs) (hi : cs[i]? = some vf) (ho : w.ownsRow B t size vf n xs) (hg : w.grownBy wB vf.ownBlock) (hat : v'.ownBlock = vf.ownBlock ∨ v'.ownBlock = some w.heap.size) (hB : B ≤ w.heap.size) (hBb : B ≤ b)
  (h5:i≠5) (ht:t≠87) (ht4:9≠t∧3≠t∧4≠t∧44≠t) :
  Box (wB.setCell ⟨b,i,none⟩ v') b 87 (cs.set i v')∧Stay [t,87] w (wB.setCell ⟨b,i,none⟩ v')∧Goes w (wB.setCell ⟨b,i,none⟩ v') B b:=by
 have hxB:Box wB b 87 cs:=hx.grown hg (own_type ho hx ht)
 have hx' := hxB.set i v'
 have st:Stay [t,87] w (wB.setCell ⟨b,i,none⟩ v'):=(Stay.grown ho hg).trans (Stay.set hxB i v')
 refine⟨hx',st, ?_, ?_,st.keeps ?_, ?_⟩
 ·have:Below B w wB:=(Below.refl _ _).grown hg hB fun k hk=>own_ge ho k hk
  exact this.setCell hBb _
 ·refine Leaves.of hx hx' (Nat.le_trans hg.size (by simp)) (fun c hc k e => ?_) fun k hk hkb hcs => ?_
  ·rcases List.mem_or_eq_of_mem_set hc with q | q
   ·exact Or.inr ⟨c,q,e⟩
   ·rw[q] at e
    rcases hat with q' | q'
    ·exact Or.inr ⟨vf,List.mem_of_getElem? hi,by rw[← q',e]⟩
    ·rw[q'] at e
     injection e with e
     exact Or.inl (by omega)
  ·rw[Below.heap_setCell _ _ _ _ hkb]
   exact hg.block k hk (fun q=>hcs vf (List.mem_of_getElem? hi) q.symm)
 ·obtain⟨a1,a2,a3,a4⟩:=ht4
  simp only[List.mem_cons,List.not_mem_nil,or_false,not_or]
  exact⟨⟨a1,by decide⟩,⟨a2,by decide⟩,⟨a3,by decide⟩,⟨a4,by decide⟩⟩
 ·rw[cell_other (Or.inr (Ne.symm h5))]
  have e:wB.heap[b]? = w.heap[b]? := hg.block b hx.lt (own_type ho hx ht).symm
  simp only[World.cell?,e]
theorem NetRows.more {w wB : World} {B b : Nat} {N : NetM} {vr vs vf vc vt vk v' : Value} (h : NetRows w B N vr vs vf vc vt vk) (hx : Box w b 87 [vr,vs,vf,vc,vt,vk]) (hB : B ≤ w.heap.size) (hBb : B ≤ b) (ps qs : List (MsgM × Value)) (hps : N.flying = ps.map Prod.fst) (hpo : MsgsOwn w B vf ps)
  (hown:wB.ownsRow B 141 8 v' (ps.length+qs.length) (ps.flatMap msgRow ++ qs.flatMap msgRow)) (hg:w.grownBy wB vf.ownBlock) (hat:v'.ownBlock=vf.ownBlock∨v'.ownBlock=some w.heap.size) (hq : ∀ p ∈ qs,w.ownsRow B 9 1 p.2 p.1.log.length (p.1.log.map enc)) :
  NetAt (wB.setCell ⟨b,2,none⟩ v') B b (flyN N (N.flying ++ qs.map Prod.fst))∧Goes w (wB.setCell ⟨b,2,none⟩ v') B b:=by
 obtain⟨hx',st,go⟩:=grown_goes (i:=2) hx rfl hpo.1 hg hat hB hBb (by decide) (by decide) (by decide)
 refine⟨⟨vr,vs,v',vc,vt,vk,hx',h.r.stay st (by decide),h.s.stay st (by decide), ?_,h.c.stay st (by decide),h.t.stay st (by decide),h.k.stay st (by decide)⟩,go⟩
 refine⟨ps ++ qs,by show N.flying ++ _=_; rw[hps,List.map_append], ?_,fun p hp => ?_⟩
 ·have hxB:Box wB b 87 [vr,vs,vf,vc,vt,vk]:=hx.grown hg (own_type hpo.1 hx (by decide))
  rw[List.length_append,List.flatMap_append]
  exact own_other hown (own_type hown hxB (by decide)) _
 ·rcases List.mem_append.1 hp with q | q
  ·exact st _ _ _ _ _ _ (by decide) (hpo.2 p q)
  ·exact st _ _ _ _ _ _ (by decide) (hq p q)

end Go.Proofs.YtmdgkjbiicaljahGreatDoor

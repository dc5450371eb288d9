/- Replicas that may be stay so, whatever they do; and what they send may be. -/
import Derived.Test.YtmdgkjbiicaljahGreatDoorJointReplProt
import Derived.Test.YtmdgkjbiicaljahGreatDoorJointStageMath
import Derived.OwnWalk
import Derived.Maps.AppendAt
set_option linter.unusedVariables false
set_option linter.unusedSimpArgs false
namespace Go.Proofs.YtmdgkjbiicaljahGreatDoor

structure ReplMay (r : ReplM) : Prop where
 me0:0≤r.me
 me1:r.me≤2
 hl:r.hav.length=3
 wl:r.wants.length=3
 gl:r.gives.length=3
 nl:r.given.length=3
 hav : ∀ x ∈ r.hav,0≤x∧x≤r.kept.log.length
 gives : ∀ k ∈ r.gives,keptFault k=0
 kept:keptFault r.kept=0
theorem replMay_of (r : ReplM) (h : replFault r = 0) : ReplMay r := by
 unfold replFault at h
 split at h
 ·rename_i hm
  split at h
  ·rename_i hk
   unfold fours knowsIn at hk
   simp only[Bool.and_eq_true,beq_iff_eq,List.all_eq_true,decide_eq_true_eq] at hk
   exact⟨hm.1,hm.2,hk.1.1.1,hk.1.1.2,hk.1.2.1,hk.1.2.2,hk.2.1,hk.2.2,h⟩
  ·omega
 ·omega
theorem kept_calm (k : KeptM) (h : keptFault k = 0) (hc : k.calm = true) : k.normal = k.view := by
 unfold keptFault at h
 split at h
 ·rename_i hi
  unfold keptIn at hi
  simp only[Bool.and_eq_true,decide_eq_true_eq,hc,Bool.not_eq_true',Bool.true_and,bne_eq_false_iff_eq] at hi
  exact hi.2.2
 ·omega
theorem keptFault_of (k : KeptM) (v0 : 0 ≤ k.view) (v1 : k.view ≤ 1048576) (n0 : 0 ≤ k.normal) (n1 : k.normal ≤ k.view) (hc : k.calm = true → k.normal = k.view) (len : k.log.length ≤ 60) (c0 : 0 ≤ k.commit) (c1 : k.commit ≤ k.log.length) (log : ∀ s ∈ k.log,decE s = 0) : keptFault k = 0 := by
 have hi:keptIn k=true:=by
  unfold keptIn
  simp only[Bool.and_eq_true,decide_eq_true_eq,Bool.not_eq_true',Bool.and_eq_false_iff,bne_eq_false_iff_eq]
  refine⟨⟨v0,v1⟩,⟨n0,n1⟩, ?_⟩
  cases e:k.calm
  ·exact Or.inl rfl
  ·exact Or.inr (hc e)
 unfold keptFault
 rw[if_pos hi,if_neg (by omega),if_pos ⟨c0,c1⟩]
 exact logE_zero _ log
theorem zeroKept_may : keptFault zeroKept = 0 := by decide

theorem forgot_may (r : ReplM) (h0 : 0 ≤ r.me) (h1 : r.me ≤ 2) (hk : keptFault r.kept = 0) : ReplMay (forgot r) := by
 refine⟨h0,h1,rfl,rfl,rfl,rfl,fun x hx => ?_,fun k hx => ?_,hk⟩
 ·have:x=0:=by simpa [forgot] using hx
  subst this
  exact⟨Int.le_refl _,by simp⟩
 ·have:k=zeroKept:=by simpa [forgot] using hx
  subst this
  exact zeroKept_may
theorem wantR_may (r : ReplM) (v : Int) (h : ReplMay r) (h0 : r.kept.view < v) (h1 : v ≤ 1048576) : ReplMay (wantR r v) := by
 have m:=keptMay_of _ h.kept
 have hk:keptFault (wantR r v).kept=0:=keptFault_of _ (by have:=m.v0; show 0≤v; omega) h1 m.n0 (by have:=m.n1; show r.kept.normal≤v; omega) (fun e=>by cases e) m.len m.c0 m.c1 m.log
 have f:=forgot_may ⟨r.me,(wantR r v).kept,[],[],[],[]⟩ h.me0 h.me1 hk
 exact⟨h.me0,h.me1,rfl,by simp[wantR],rfl,rfl,f.hav,f.gives,hk⟩

theorem mem_set {α : Type} {l : List α} {i : Nat} {x y : α} (h : y ∈ l.set i x) : y ∈ l ∨ y = x := List.mem_or_eq_of_mem_set h
theorem withGive_may (r : ReplM) (i : Nat) (k : KeptM) (h : ReplMay r) (hk : keptFault k = 0) : ReplMay (withGive r i k) :=
 ⟨h.me0,h.me1,h.hl,h.wl,by simp[withGive,h.gl],by simp[withGive,h.nl],h.hav,fun x hx=>by
  rcases mem_set hx with e | e
  ·exact h.gives x e
  ·rw[e]; exact hk,h.kept⟩
theorem ownK_may (r : ReplM) (h : ReplMay r) : keptFault (ownK r) = 0 := by
 have m:=keptMay_of _ h.kept
 exact keptFault_of _ m.v0 m.v1 m.n0 m.n1 (fun e=>by cases e) m.len m.c0 m.c1 m.log
theorem gives_at (r : ReplM) (h : ReplMay r) (i : Nat) : keptFault (r.gives.getD i zeroKept) = 0 := by
 by_cases hi:i < r.gives.length
 ·rw[show r.gives.getD i zeroKept=r.gives[i] by simp[List.getD,hi]]
  exact h.gives _ (List.getElem_mem hi)
 ·rw[show r.gives.getD i zeroKept=zeroKept by simp[List.getD,List.getElem?_eq_none (Nat.le_of_not_lt hi)]]
  exact zeroKept_may
theorem best_commit0 (r : ReplM) (h : ReplMay r) : ∀ n,0 ≤ (bestTo r n).commit
 | 0=>Int.le_refl _
 | n+1=>by
  have ih:=best_commit0 r h n
  have:=(keptMay_of _ (gives_at r h n)).c0
  unfold bestTo bestStep
  split
  ·simp only
   split
   ·exact this
   ·exact ih
  ·exact ih
theorem beginR_may (r : ReplM) (h : ReplMay r) : ReplMay (beginR r) := by
 unfold beginR
 split
 ·have m:=keptMay_of _ h.kept
  have g:=keptMay_of _ (gives_at r h (bestTo r 3).at_.toNat)
  have b:=best_commit0 r h 3
  refine forgot_may _ h.me0 h.me1 (keptFault_of _ m.v0 m.v1 m.v0 (Int.le_refl _) (fun _=>rfl) g.len ?_ ?_ g.log)
  ·show 0≤min (bestTo r 3).commit ((bestLog r).length:Int)
   omega
  ·show min (bestTo r 3).commit ((bestLog r).length:Int)≤((bestLog r).length:Int)
   omega
 ·exact h

theorem leadK_may (k : KeptM) (m : MsgM) (h : keptFault k = 0) (hm : MsgMay m) (hv : ¬ m.view < k.view) : keptFault (leadK k m) = 0 := by
 have a:=keptMay_of _ h
 have b:=keptMay_of _ hm.kept
 have b1:m.view≤1048576:=b.v1
 have b2:0≤m.view:=b.v0
 have b3:m.log.length≤60:=b.len
 have b4 : ∀ s ∈ m.log,decE s=0:=b.log
 have b5:0≤m.commit:=b.c0
 have a1:=a.c0
 have a2:=a.c1
 have a3:=a.n0
 have a4:=a.n1
 have a5:=a.v1
 have a6:=a.v0
 unfold leadK
 by_cases hc:m.view > k.view∨k.calm=false
 ·rw[if_pos hc]
  refine keptFault_of _ b2 b1 b2 (Int.le_refl _) (fun _=>rfl) b3 ?_ ?_ b4
  ·simp only; omega
  ·simp only; omega
 ·rw[if_neg hc]
  by_cases hl:m.log.length > k.log.length
  ·rw[if_pos hl]
   refine keptFault_of _ a6 a5 a3 a4 (kept_calm k h) b3 ?_ ?_ b4
   ·simp only; omega
   ·simp only; omega
  ·rw[if_neg hl]
   refine keptFault_of _ a6 a5 a3 a4 (kept_calm k h) a.len ?_ ?_ a.log
   ·simp only; omega
   ·simp only; omega
theorem leadR_may (r : ReplM) (m : MsgM) (h : ReplMay r) (hm : MsgMay m) (hv : ¬ m.view < r.kept.view) : ReplMay (leadR r m) := by
 have hk:=leadK_may r.kept m h.kept hm hv
 unfold leadR
 by_cases hc:m.view > r.kept.view∨r.kept.calm=false
 ·rw[if_pos hc]
  exact forgot_may _ h.me0 h.me1 hk
 ·rw[if_neg hc]
  refine⟨h.me0,h.me1,h.hl,h.wl,h.gl,h.nl,fun x hx => ?_,h.gives,hk⟩
  have:=h.hav x hx
  refine⟨this.1, ?_⟩
  have e:(r.kept.log.length:Int)≤(leadK r.kept m).log.length:=by
   unfold leadK
   rw[if_neg hc]
   split
   ·simp only; omega
   ·simp only; omega
  simp only
  omega
theorem leadR_calm (r : ReplM) (m : MsgM) : (leadR r m).me = r.me ∧ (leadR r m).kept = leadK r.kept m := by
 unfold leadR
 split <;> exact⟨rfl,rfl⟩
theorem leadK_view (k : KeptM) (m : MsgM) (hv : ¬ m.view < k.view) : (leadK k m).view = m.view ∧ (leadK k m).calm = true := by
 unfold leadK
 by_cases hc:m.view > k.view∨k.calm=false
 ·rw[if_pos hc]; exact⟨rfl,rfl⟩
 ·rw[if_neg hc]
  have e1 : ¬ m.view > k.view:=fun e=>hc (Or.inl e)
  have e2:k.calm=true:=by
   cases e:k.calm
   ·exact absurd (Or.inr e) hc
   ·rfl
  split
  ·exact⟨by simp only; omega,e2⟩
  ·exact⟨by simp only; omega,e2⟩
theorem hasR_may (r : ReplM) (m : MsgM) (h : ReplMay r) (hm : MsgMay m) : ReplMay (hasR r m) := by
 have a:=keptMay_of _ h.kept
 have a1:=a.c0
 have a2:=a.c1
 have hn:=hm.n
 unfold hasR
 split
 ·have hl:(min m.n r.kept.log.length:Int)≤r.kept.log.length:=by omega
  refine⟨h.me0,h.me1,by simp[h.hl],h.wl,h.gl,h.nl,fun x hx => ?_,h.gives,keptFault_of _ a.v0 a.v1 a.n0 a.n1 (fun e=>kept_calm r.kept h.kept e) a.len (by simp only; omega) (by simp only; omega) a.log⟩
  rcases mem_set hx with e | e
  ·exact h.hav x e
  ·subst e
   have:0≤r.hav.getD m.frm.toNat 0∧r.hav.getD m.frm.toNat 0≤r.kept.log.length:=by
    by_cases hi:m.frm.toNat < r.hav.length
    ·rw[show r.hav.getD m.frm.toNat 0=r.hav[m.frm.toNat] by simp[List.getD,hi]]
     exact h.hav _ (List.getElem_mem hi)
    ·rw[show r.hav.getD m.frm.toNat 0=0 by simp[List.getD,List.getElem?_eq_none (Nat.le_of_not_lt hi)]]
     omega
   simp only
   omega
 ·exact h
theorem setWant_may (r : ReplM) (i : Nat) (h : ReplMay r) : ReplMay ⟨r.me,r.kept,r.hav,r.wants.set i true,r.gives,r.given⟩ :=
 ⟨h.me0,h.me1,h.hl,by simp[h.wl],h.gl,h.nl,h.hav,h.gives,h.kept⟩
theorem wantedR_may (r : ReplM) (m : MsgM) (h : ReplMay r) : ReplMay (wantedR r m) := by
 unfold wantedR
 split
 ·exact h
 ·have h1:=setWant_may r m.frm.toNat h
  simp only
  split
  ·exact beginR_may _ (withGive_may _ _ _ h1 (ownK_may _ h1))
  ·exact h1
theorem gaveR_may (r : ReplM) (m : MsgM) (h : ReplMay r) (hm : MsgMay m) : ReplMay (gaveR r m) := by
 unfold gaveR
 split
 ·exact withGive_may _ _ _ h hm.kept
 ·exact withGive_may _ _ _ (withGive_may _ _ _ h (ownK_may _ h)) hm.kept
theorem giveR_may (r : ReplM) (m : MsgM) (h : ReplMay r) (hm : MsgMay m) : ReplMay (giveR r m) := by
 unfold giveR
 split
 ·exact h
 ·exact beginR_may _ (gaveR_may r m h hm)
theorem wishR_may (r : ReplM) (m : MsgM) (h : ReplMay r) (hm : MsgMay m) : ReplMay (wishR r m) := by
 unfold wishR
 split
 ·rename_i hw
  unfold wishes at hw
  simp only[Bool.and_eq_true,decide_eq_true_eq] at hw
  exact wantR_may _ _ h hw.2 hm.view.2
 ·exact h
theorem hearE_of (r : ReplM) (m : MsgM) (h : hearE r m = 0) : ReplMay r ∧ MsgMay m ∧ m.dst = r.me ∧ ¬ m.view < r.kept.view ∧ msgFault m = 0 := by
 unfold hearE at h
 split at h
 ·omega
 ·rename_i h1
  split at h
  ·omega
  ·rename_i h2
   split at h
   ·omega
   ·rename_i h3
    split at h
    ·omega
    ·rename_i h4
     exact⟨replMay_of r (by simpa using h1),msgMay_of m (by simpa using h2),by simpa using h3,h4,by simpa using h2⟩
theorem hearR_may (r : ReplM) (m : MsgM) (h : hearE r m = 0) : ReplMay (hearR' r m) := by
 obtain⟨h1,h2,h3,h4,_⟩:=hearE_of r m h
 unfold hearR'
 split
 ·exact leadR_may _ _ h1 h2 h4
 split
 ·exact hasR_may _ _ h1 h2
 split
 ·exact wantedR_may _ _ (wishR_may _ _ h1 h2)
 ·exact giveR_may _ _ (wishR_may _ _ h1 h2) h2
theorem takeR_may (r : ReplM) (s : List UInt8) (h : ReplMay r) (hl : r.kept.log.length < 60) (hs : decE s = 0) : ReplMay (takeR' r s) := by
 have a:=keptMay_of _ h.kept
 have a1:=a.c0
 have a2:=a.c1
 refine⟨h.me0,h.me1,h.hl,h.wl,h.gl,h.nl,fun x hx => ?_,h.gives,keptFault_of _ a.v0 a.v1 a.n0 a.n1 (fun e=>kept_calm r.kept h.kept e) ?_ a1 ?_ fun x hx => ?_⟩
 ·have:=h.hav x hx
  simp only[takeR',List.length_append,List.length_singleton]
  omega
 ·simp only[takeR',List.length_append,List.length_singleton]
  omega
 ·simp only[takeR',List.length_append,List.length_singleton]
  omega
 ·rcases List.mem_append.1 hx with e | e
  ·exact a.log x e
  ·have:x=s:=by simpa using e
   rw[this]; exact hs
theorem takeE_of (r : ReplM) (s : List UInt8) (h : takeE r s = 0) : ReplMay r ∧ leads r = true ∧ r.kept.log.length < 60 ∧ decE s = 0 := by
 unfold takeE at h
 split at h
 ·omega
 ·rename_i h1
  split at h
  ·omega
  ·rename_i h2
   split at h
   ·omega
   ·rename_i h3
    exact⟨replMay_of r (by simpa using h1),by simpa using h2,by omega,h⟩
theorem tickR_may (r : ReplM) (h : ReplMay r) : ReplMay (tickR' r) := by
 unfold tickR'
 split
 ·exact h
 ·exact setWant_may _ _ h
theorem alarmE_of (r : ReplM) (h : alarmE r = 0) : ReplMay r ∧ r.kept.view < 1048576 := by
 unfold alarmE at h
 split at h
 ·omega
 ·rename_i h1
  split at h
  ·omega
  ·exact⟨replMay_of r (by simpa using h1),by omega⟩

/-! ### What is sent. -/
theorem msgFault_of (m : MsgM) (hk : 1 ≤ m.kind ∧ m.kind ≤ 4) (hr : msgRange m = true) (hf : msgForm m = true) (h : keptFault (msgKept m) = 0) : msgFault m = 0 := by
 unfold msgFault
 rw[if_pos hk,if_pos hr,if_pos hf]
 exact h
theorem msgRange_of (m : MsgM) (f0 : 0 ≤ m.frm) (f1 : m.frm ≤ 2) (d0 : 0 ≤ m.dst) (d1 : m.dst ≤ 2) (ne : m.frm ≠ m.dst) (v0 : 0 ≤ m.view) (v1 : m.view ≤ 1048576) (n0 : 0 ≤ m.n) (n1 : m.n ≤ 60) : msgRange m = true := by
 unfold msgRange
 simp only[Bool.and_eq_true,decide_eq_true_eq]
 exact⟨⟨⟨f0,f1⟩,d0,d1⟩,ne,⟨v0,v1⟩,n0,n1⟩
theorem mem_others {me i : Int} (h : i ∈ others me) : 0 ≤ i ∧ i ≤ 2 ∧ i ≠ me := by
 unfold others at h
 obtain⟨h1,h2⟩:=List.mem_filter.1 h
 have h3:i≠me:=by simpa using h2
 have:i=0∨i=1∨i=2:=by simpa using h1
 exact⟨by omega,by omega,h3⟩
theorem ledBy_may (r : ReplM) (h : ReplMay r) (hl : leads r = true) : ∀ m ∈ ledBy r,msgFault m = 0 := by
 intro m hm
 obtain⟨i,hi,rfl⟩:=List.mem_map.1 hm
 have o:=mem_others hi
 have a:=keptMay_of _ h.kept
 unfold leads at hl
 simp only[Bool.and_eq_true,decide_eq_true_eq] at hl
 refine msgFault_of _ ⟨by simp[hasMsg],by simp[hasMsg]⟩ (msgRange_of _ h.me0 h.me1 o.1 o.2.1 (Ne.symm o.2.2) a.v0 a.v1 (Int.le_refl _) (by simp)) ?_ (keptFault_of _ a.v0 a.v1 (Int.le_refl _) a.v0 (fun e=>by cases e) a.len a.c0 a.c1 a.log)
 simp[msgForm,isHW,isHG,hl.2]
theorem wantAll_may (r : ReplM) (h : ReplMay r) : ∀ m ∈ toAll r 3 0 [],msgFault m = 0 := by
 intro m hm
 obtain⟨i,hi,rfl⟩:=List.mem_map.1 hm
 have o:=mem_others hi
 have a:=keptMay_of _ h.kept
 refine msgFault_of _ ⟨by simp[hasMsg],by simp[hasMsg]⟩ (msgRange_of _ h.me0 h.me1 o.1 o.2.1 (Ne.symm o.2.2) a.v0 a.v1 (Int.le_refl _) (by simp)) ?_ (keptFault_of _ a.v0 a.v1 (Int.le_refl _) a.v0 (fun e=>by cases e) (by simp[msgKept]) (Int.le_refl _) (by simp[msgKept]) (fun s hs=>by simp[msgKept] at hs))
 simp[msgForm,isHW,isHG]
theorem tmod3 {v : Int} (h : 0 ≤ v) : 0 ≤ v.tmod 3 ∧ v.tmod 3 ≤ 2 := by
 rw[Int.tmod_eq_emod_of_nonneg h]
 omega
theorem hasMsg_may (r : ReplM) (dst : Int) (h : ReplMay r) (h1 : dst = r.kept.view.tmod 3) (h2 : dst ≠ r.me) : msgFault (hasMsg r dst) = 0 := by
 have a:=keptMay_of _ h.kept
 have t:=tmod3 a.v0
 have:=a.len
 refine msgFault_of _ ⟨by simp[hasMsg],by simp[hasMsg]⟩ (msgRange_of _ h.me0 h.me1 (by rw[h1]; exact t.1) (by rw[h1]; exact t.2) (Ne.symm h2) a.v0 a.v1 (by simp[hasMsg]) (by simp[hasMsg]; omega)) ?_ (keptFault_of _ a.v0 a.v1 (Int.le_refl _) a.v0 (fun e=>by cases e) (by simp[msgKept,hasMsg]) (Int.le_refl _) (by simp[msgKept,hasMsg]) (fun s hs=>by simp[msgKept,hasMsg] at hs))
 simp[msgForm,isHW,isHG,hasMsg,h1]
theorem beginL_may (r : ReplM) (h : ReplMay r) (hl : r.kept.view.tmod 3 = r.me) : ∀ m ∈ beginL r,msgFault m = 0 := by
 intro m hm
 have hb:=beginR_may r h
 unfold beginL at hm
 split at hm
 ·rename_i e
  refine ledBy_may _ hb ?_ m hm
  unfold beginR
  rw[if_pos e]
  unfold leads forgot
  simp[hl]
 ·simp at hm
theorem wishL_may (r : ReplM) (m : MsgM) (h : ReplMay r) (hm : MsgMay m) : ∀ x ∈ wishL r m,msgFault x = 0 := by
 intro x hx
 have hb:=wishR_may r m h hm
 unfold wishL at hx
 split at hx
 ·rename_i e
  unfold wishR at hb
  rw[if_pos e] at hb
  exact wantAll_may _ hb x hx
 ·simp at hx
theorem wantedL_may (r : ReplM) (m : MsgM) (h : ReplMay r) : ∀ x ∈ wantedL r m,msgFault x = 0 := by
 intro x hx
 unfold wantedL at hx
 split at hx
 ·simp at hx
 ·have h1:=setWant_may r m.frm.toNat h
  simp only at hx
  split at hx
  ·rename_i e
   exact beginL_may _ (withGive_may _ _ _ h1 (ownK_may _ h1)) e x hx
  ·rename_i e
   have:x=⟨4,r.me,r.kept.view.tmod 3,r.kept.view,r.kept.normal,r.kept.commit,0,r.kept.log⟩:=by simpa using hx
   subst this
   have a:=keptMay_of _ h.kept
   have t:=tmod3 a.v0
   refine msgFault_of _ ⟨by simp[hasMsg],by simp[hasMsg]⟩ (msgRange_of _ h.me0 h.me1 t.1 t.2 (Ne.symm e) a.v0 a.v1 (Int.le_refl _) (by simp)) ?_ (keptFault_of _ a.v0 a.v1 a.n0 a.n1 (fun e=>by cases e) a.len a.c0 a.c1 a.log)
   simp[msgForm,isHW,isHG]
theorem gaveR_me (r : ReplM) (m : MsgM) : (gaveR r m).me = r.me ∧ (gaveR r m).kept = r.kept := by unfold gaveR; split <;> exact ⟨rfl,rfl⟩
theorem giveL_may (r : ReplM) (m : MsgM) (h : ReplMay r) (hm : MsgMay m) (hl : r.kept.view.tmod 3 = r.me) : ∀ x ∈ giveL r m,msgFault x = 0 := by
 intro x hx
 unfold giveL at hx
 split at hx
 ·simp at hx
 ·exact beginL_may _ (gaveR_may r m h hm) (by rw[(gaveR_me r m).1,(gaveR_me r m).2]; exact hl) x hx
theorem wishR_me (r : ReplM) (m : MsgM) : (wishR r m).me = r.me := by unfold wishR; split <;> rfl
theorem wishR_view (r : ReplM) (m : MsgM) (hk : m.kind = 3 ∨ m.kind = 4) (hv : ¬ m.view < r.kept.view) : (wishR r m).kept.view = m.view := by
 unfold wishR wishes
 by_cases h:r.kept.view < m.view
 ·rw[if_pos (by simp only[Bool.and_eq_true,Bool.or_eq_true,decide_eq_true_eq]; exact⟨hk,h⟩)]
  rfl
 ·rw[if_neg (by simp only[Bool.and_eq_true,Bool.or_eq_true,decide_eq_true_eq]; exact fun e=>h e.2)]
  omega
theorem hearL_may (r : ReplM) (m : MsgM) (h : hearE r m = 0) : ∀ x ∈ hearL' r m,msgFault x = 0 := by
 obtain⟨h1,h2,h3,h4,h5⟩:=hearE_of r m h
 intro x hx
 unfold hearL' at hx
 by_cases k1:m.kind=1
 ·rw[if_pos k1] at hx
  have:x=hasMsg (leadR r m) m.frm:=by simpa using hx
  subst this
  have e:=leadR_calm r m
  refine hasMsg_may _ _ (leadR_may _ _ h1 h2 h4) ?_ ?_
  ·rw[e.2,(leadK_view _ _ h4).1]
   have hf:=h5
   unfold msgFault at hf
   rw[if_pos h2.kind] at hf
   split at hf
   ·split at hf
    ·rename_i hq
     unfold msgForm isHG at hq
     simp only[k1,Bool.and_eq_true,Bool.not_eq_true',Bool.or_eq_false_iff,Bool.and_eq_false_iff,decide_eq_false_iff_not] at hq
     obtain⟨_,_,hq,_⟩:=hq
     rcases hq with hq | hq
     ·exact absurd trivial hq
     ·exact Classical.not_not.1 hq
    ·omega
   ·omega
  ·rw[e.1,← h3]; exact h2.ne
 ·rw[if_neg k1] at hx
  by_cases k2:m.kind=2
  ·rw[if_pos k2] at hx
   unfold hasL at hx
   split at hx
   ·rename_i hl
    split at hx
    ·refine ledBy_may _ (hasR_may _ _ h1 h2) ?_ x hx
     unfold hasR
     rw[if_pos hl]
     have:=hl.2
     unfold leads at this ⊢
     exact this
    ·simp at hx
   ·simp at hx
  ·rw[if_neg k2] at hx
   have hw:=wishR_may r m h1 h2
   by_cases k3:m.kind=3
   ·rw[if_pos k3] at hx
    rcases List.mem_append.1 hx with hx | hx
    ·exact wishL_may r m h1 h2 x hx
    ·exact wantedL_may _ m hw x hx
   ·rw[if_neg k3] at hx
    have k4:m.kind=4:=by have:=h2.kind; omega
    rcases List.mem_append.1 hx with hx | hx
    ·exact wishL_may r m h1 h2 x hx
    ·refine giveL_may _ m hw h2 ?_ x hx
     rw[wishR_view r m (Or.inr k4) h4,wishR_me,← h3]
     exact (h2.give (Or.inr k4)).symm
theorem tickL_may (r : ReplM) (h : ReplMay r) : ∀ x ∈ tickL' r,msgFault x = 0 := by
 intro x hx
 unfold tickL' at hx
 split at hx
 ·rename_i hl
  exact ledBy_may r h hl x hx
 ·rename_i hl
  split at hx
  ·rename_i hc
   have:x=hasMsg r (r.kept.view.tmod 3):=by simpa using hx
   subst this
   refine hasMsg_may r _ h rfl fun e=>hl ?_
   unfold leads
   simp[hc,e]
  ·exact wantAll_may r h x hx
theorem takeL_may (r : ReplM) (s : List UInt8) (h : takeE r s = 0) : ∀ x ∈ ledBy (takeR' r s),msgFault x = 0 := by
 obtain⟨h1,h2,h3,h4⟩:=takeE_of r s h
 exact ledBy_may _ (takeR_may r s h1 h3 h4) h2
theorem alarmL_may (r : ReplM) (h : alarmE r = 0) : ∀ x ∈ wantL r (r.kept.view + 1),msgFault x = 0 := by
 obtain⟨h1,h2⟩:=alarmE_of r h
 exact wantAll_may _ (wantR_may r _ h1 (by omega) (by omega))
/-- Whose they are. -/
theorem beginR_me (r : ReplM) : (beginR r).me = r.me := by unfold beginR; split <;> rfl
theorem hearR_me (r : ReplM) (m : MsgM) : (hearR' r m).me = r.me := by
 unfold hearR'
 split
 ·exact (leadR_calm r m).1
 split
 ·unfold hasR; split <;> rfl
 split
 ·unfold wantedR
  split
  ·exact wishR_me r m
  ·simp only
   split
   ·rw[beginR_me]; exact wishR_me r m
   ·exact wishR_me r m
 ·unfold giveR
  split
  ·exact wishR_me r m
  ·rw[beginR_me,(gaveR_me _ _).1]; exact wishR_me r m
theorem tickR_me (r : ReplM) : (tickR' r).me = r.me := by unfold tickR'; split <;> rfl

end Go.Proofs.YtmdgkjbiicaljahGreatDoor

/- 'append' onto a slice of the call's own, from whatever slice: nil, empty or not. -/
namespace Go.Proofs.YtmdgkjbiicaljahGreatDoor
open Go.RowKit

/-- The value is a slice of n elements, 'size' cells each, and its cells hold xs. -/
def RowAt (w : World) (v : Value) (n size : Nat) (xs : List Value) : Prop :=
 ∃ a cap,v = .slice a n cap∧xs.length=n * size ∧ ∀ j u,xs[j]? = some u → ∃ ad,a=some ad∧w.cell? (ad.add j)=some u

theorem run_append_none {P : Program} (w : World) (base : Nat) (t ty e : TypeId) (i : TypeInfo) (size : Nat) (ht : P.underlying t = some (.slice e)) (hi : P.info? e = some i) (hsize : i.size = size)
  (v:Value) (n:Nat) (xs:List Value) (hown:w.ownsRow base e size v n xs) (c:Nat) :
  (Builtin.append_ #[t,t] ty #[v, .slice none 0 c]).run P w = .ok v w:=by
 subst hsize
 rcases hown.2 with ⟨rfl,rfl⟩ | ⟨g,cap,cur,rfl,hb,hg,hn,hm,hc,hx⟩
 ·simp[Builtin.append_,run_underlying ht,sizeOf,typeInfo,hi,Builtin.lenOf,Builtin.firstCells]
 ·simp[Builtin.append_,run_underlying ht,sizeOf,typeInfo,hi,Builtin.lenOf,Builtin.firstCells,hn,storeCells]

theorem run_append_row {P : Program} (w : World) (base : Nat) (t ty e : TypeId) (i : TypeInfo) (z : Value) (size bytes : Nat) (ht : P.underlying t = some (.slice e)) (hi : P.info? e = some i) (hz : i.zero = some z)
  (hsize:i.size=size) (hby:i.bytes=bytes) (hzs:z.cells.size=size) (hsz:0 < size)
  (v:Value) (n:Nat) (xs:List Value) (hown:w.ownsRow base e size v n xs) (x:Value) (m:Nat) (news:List Value) (hx:RowAt w x m size news)
  (h1 : ∀ u ∈ news,u.oneCell' = true) (h63:n+m≤maxLen) (hbytes:(n+m) * bytes≤140737488355328) (hbase:base≤w.heap.size) :
  ∃ v' w',(Builtin.append_ #[t,t] ty #[v,x]).run P w = .ok v' w' ∧ w'.ownsRow base e size v' (n+m) (xs ++ news)∧w.grownBy w' v.ownBlock∧(v'.ownBlock=v.ownBlock∨v'.ownBlock=some w.heap.size):=by
 obtain⟨a,c,rfl,hl,hc⟩:=hx
 cases a with
 | some ad =>
  obtain⟨v',w',hr,h2,h3,_,h4⟩:=run_append_own_at (P:=P) w base t ty e i z size bytes ht hi hz hsize hby hzs hsz v n xs hown ad m c news hl (fun j u hj=>by
   obtain⟨ad',e1,e2⟩:=hc j u hj
   cases e1
   exact e2) h1 h63 hbytes hbase
  exact⟨v',w',hr,h2,h3,h4⟩
 | none =>
  have hm:news = []:=by
   cases news with
   | nil=>rfl
   | cons u r=>obtain⟨ad',e1,_⟩:=hc 0 u rfl; cases e1
  subst hm
  have hm0:m=0:=by
   rcases Nat.eq_zero_or_pos m with h | h
   ·exact h
   ·have:=Nat.mul_pos h hsz; simp at hl; omega
  subst hm0
  exact⟨v,w,run_append_none w base t ty e i size ht hi hsize v n xs hown c,by simpa using hown,⟨rfl,rfl,rfl,Nat.le_refl _,fun _ _ _=>rfl⟩,Or.inl rfl⟩

theorem wpList_append_row {P : Program} (w : World) {ops : Array Oper} {rest : List Oper} {o : Oper} {a : Act} {Q : Exit → Act → World → Prop} (hgd : o.guard = none) (s x : Operand) (t : TypeId)
  (ho:o.op = .call { callee := .builtin .append,args := #[s,x],argTypes := #[t,t] })
  (base:Nat) (e:TypeId) (i:TypeInfo) (z:Value) (size bytes:Nat) (ht:P.underlying t=some (.slice e)) (hi:P.info? e=some i) (hz:i.zero=some z)
  (hsize:i.size=size) (hby:i.bytes=bytes) (hzs:z.cells.size=size) (hsz:0 < size)
  (v:Value) (n:Nat) (xs:List Value) (hs:a.eval s=v) (hown:w.ownsRow base e size v n xs)
  (y:Value) (m:Nat) (news:List Value) (hx:a.eval x=y) (hrow:RowAt w y m size news) (h1 : ∀ u ∈ news,u.oneCell' = true)
  (h63:n+m≤maxLen) (hbytes:(n+m) * bytes≤140737488355328) (hbase:base≤w.heap.size)
  (h : ∀ v' w',w'.ownsRow base e size v' (n+m) (xs ++ news)→w.grownBy w' v.ownBlock→(v'.ownBlock=v.ownBlock∨v'.ownBlock=some w.heap.size)→wpList P ops Q rest (a.put o.dst v') w'):wpList P ops Q (o :: rest) a w:=by
 refine wpList_plain hgd fun _ hK => ?_
 obtain⟨v',w',hr,h2,h3,h4⟩:=run_append_row (P:=P) w base t o.type e i z size bytes ht hi hz hsize hby hzs hsz v n xs hown y m news hrow h1 h63 hbytes hbase
 unfold Oper.wp execOp
 simp only[ho,resolve,invoke,builtin,Sem.run_bind,Sem.run_pure,Result.andThen_ok,List.map_toArray,List.map_cons,List.map_nil,hs,hx,hr]
 exact hK _ _ (h v' w' h2 h3 h4)

theorem wp_append_row {P : Program} (w : World) {o : Oper} {a : Act} {K : Act → World → Prop} {Q : Exit → Act → World → Prop} (s x : Operand) (t : TypeId)
  (ho:o.op = .call { callee := .builtin .append,args := #[s,x],argTypes := #[t,t] })
  (base:Nat) (e:TypeId) (i:TypeInfo) (z:Value) (size bytes:Nat) (ht:P.underlying t=some (.slice e)) (hi:P.info? e=some i) (hz:i.zero=some z)
  (hsize:i.size=size) (hby:i.bytes=bytes) (hzs:z.cells.size=size) (hsz:0 < size)
  (v:Value) (n:Nat) (xs:List Value) (hs:a.eval s=v) (hown:w.ownsRow base e size v n xs)
  (y:Value) (m:Nat) (news:List Value) (hx:a.eval x=y) (hrow:RowAt w y m size news) (h1 : ∀ u ∈ news,u.oneCell' = true)
  (h63:n+m≤maxLen) (hbytes:(n+m) * bytes≤140737488355328) (hbase:base≤w.heap.size)
  (h : ∀ v' w',w'.ownsRow base e size v' (n+m) (xs ++ news)→w.grownBy w' v.ownBlock→(v'.ownBlock=v.ownBlock∨v'.ownBlock=some w.heap.size)→K (a.put o.dst v') w'):Oper.wp P o a w K Q:=by
 obtain⟨v',w',hr,h2,h3,h4⟩:=run_append_row (P:=P) w base t o.type e i z size bytes ht hi hz hsize hby hzs hsz v n xs hown y m news hrow h1 h63 hbytes hbase
 unfold Oper.wp execOp
 simp only[ho,resolve,invoke,builtin,Sem.run_bind,Sem.run_pure,Result.andThen_ok,List.map_toArray,List.map_cons,List.map_nil,hs,hx,hr]
 exact h v' w' h2 h3 h4

/-- The same at a step of a region that draws its order. -/
theorem step_append_row {P : Program} (w : World) {ops : Array Oper} {o : Oper} {a : Act} {K : Act → World → Prop} {Q : Exit → Act → World → Prop} {E : Prop} (hgd : o.guard = none) (s x : Operand) (t : TypeId)
  (ho:o.op = .call { callee := .builtin .append,args := #[s,x],argTypes := #[t,t] })
  (base:Nat) (e:TypeId) (i:TypeInfo) (z:Value) (size bytes:Nat) (ht:P.underlying t=some (.slice e)) (hi:P.info? e=some i) (hz:i.zero=some z)
  (hsize:i.size=size) (hby:i.bytes=bytes) (hzs:z.cells.size=size) (hsz:0 < size)
  (v:Value) (n:Nat) (xs:List Value) (hs:a.eval s=v) (hown:w.ownsRow base e size v n xs)
  (y:Value) (m:Nat) (news:List Value) (hx:a.eval x=y) (hrow:RowAt w y m size news) (h1 : ∀ u ∈ news,u.oneCell' = true)
  (h63:n+m≤maxLen) (hbytes:(n+m) * bytes≤140737488355328) (hbase:base≤w.heap.size)
  (h : ∀ v' w',w'.ownsRow base e size v' (n+m) (xs ++ news)→w.grownBy w' v.ownBlock→(v'.ownBlock=v.ownBlock∨v'.ownBlock=some w.heap.size)→K (a.put o.dst v') w') :
  if Region.wanted o (yielded ops a.tmps)=true then Oper.wp P o a w K Q else E:=by
 have hw:Region.wanted o (yielded ops a.tmps)=true:=by simp[Region.wanted,hgd]
 rw[if_pos hw]
 exact wp_append_row w s x t ho base e i z size bytes ht hi hz hsize hby hzs hsz v n xs hs hown y m news hx hrow h1 h63 hbytes hbase h

/-! ### A block of the call's own, known whole: a local struct, a struct result. -/
def Box (w : World) (b : Nat) (t : TypeId) (cs : List Value) : Prop := w.heap[b]? = some (.cells cs.toArray t (0,0))

theorem Box.cell {w : World} {b : Nat} {t : TypeId} {cs : List Value} (h : Box w b t cs) (i : Nat) (v : Value) (hi : cs[i]? = some v) : w.cell? ⟨b,i,none⟩ = some v := by
 unfold Box at h
 simp[World.cell?,h,hi]
theorem Box.frozen {w : World} {b : Nat} {t : TypeId} {cs : List Value} (h : Box w b t cs) (i : Nat) : w.frozen? ⟨b,i,none⟩ = false := by
 unfold Box at h
 simp[World.frozen?,h]
theorem Box.c2 {w : World} {b : Nat} {t : TypeId} {x0 x1 : Value} {r : List Value} (h : Box w b t (x0 :: x1 :: r)) : w.cell? ⟨b,0,none⟩ = some x0 ∧ w.cell? ⟨b,1,none⟩ = some x1 := ⟨h.cell 0 _ rfl,h.cell 1 _ rfl⟩
theorem Box.z2 {w : World} {b : Nat} {t : TypeId} {l : List Value} (h : Box w b t l) : w.frozen? ⟨b,0,none⟩ = false ∧ w.frozen? ⟨b,1,none⟩ = false := ⟨h.frozen 0,h.frozen 1⟩
theorem Box.c3 {w : World} {b : Nat} {t : TypeId} {x0 x1 x2 : Value} {r : List Value} (h : Box w b t (x0 :: x1 :: x2 :: r)) : w.cell? ⟨b,0,none⟩ = some x0 ∧ w.cell? ⟨b,1,none⟩ = some x1 ∧ w.cell? ⟨b,2,none⟩ = some x2 := ⟨h.cell 0 _ rfl,h.cell 1 _ rfl,h.cell 2 _ rfl⟩
theorem Box.z3 {w : World} {b : Nat} {t : TypeId} {l : List Value} (h : Box w b t l) : w.frozen? ⟨b,0,none⟩ = false ∧ w.frozen? ⟨b,1,none⟩ = false ∧ w.frozen? ⟨b,2,none⟩ = false := ⟨h.frozen 0,h.frozen 1,h.frozen 2⟩
theorem Box.c4 {w : World} {b : Nat} {t : TypeId} {x0 x1 x2 x3 : Value} {r : List Value} (h : Box w b t (x0 :: x1 :: x2 :: x3 :: r)) : w.cell? ⟨b,0,none⟩ = some x0 ∧ w.cell? ⟨b,1,none⟩ = some x1 ∧ w.cell? ⟨b,2,none⟩ = some x2 ∧ w.cell? ⟨b,3,none⟩ = some x3 := ⟨h.cell 0 _ rfl,h.cell 1 _ rfl,h.cell 2 _ rfl,h.cell 3 _ rfl⟩
theorem Box.z4 {w : World} {b : Nat} {t : TypeId} {l : List Value} (h : Box w b t l) : w.frozen? ⟨b,0,none⟩ = false ∧ w.frozen? ⟨b,1,none⟩ = false ∧ w.frozen? ⟨b,2,none⟩ = false ∧ w.frozen? ⟨b,3,none⟩ = false := ⟨h.frozen 0,h.frozen 1,h.frozen 2,h.frozen 3⟩
theorem Box.c5 {w : World} {b : Nat} {t : TypeId} {x0 x1 x2 x3 x4 : Value} {r : List Value} (h : Box w b t (x0 :: x1 :: x2 :: x3 :: x4 :: r)) : w.cell? ⟨b,0,none⟩ = some x0 ∧ w.cell? ⟨b,1,none⟩ = some x1 ∧ w.cell? ⟨b,2,none⟩ = some x2 ∧ w.cell? ⟨b,3,none⟩ = some x3 ∧ w.cell? ⟨b,4,none⟩ = some x4 := ⟨h.cell 0 _ rfl,h.cell 1 _ rfl,h.cell 2 _ rfl,h.cell 3 _ rfl,h.cell 4 _ rfl⟩
theorem Box.z5 {w : World} {b : Nat} {t : TypeId} {l : List Value} (h : Box w b t l) : w.frozen? ⟨b,0,none⟩ = false ∧ w.frozen? ⟨b,1,none⟩ = false ∧ w.frozen? ⟨b,2,none⟩ = false ∧ w.frozen? ⟨b,3,none⟩ = false ∧ w.frozen? ⟨b,4,none⟩ = false := ⟨h.frozen 0,h.frozen 1,h.frozen 2,h.frozen 3,h.frozen 4⟩
theorem Box.c6 {w : World} {b : Nat} {t : TypeId} {x0 x1 x2 x3 x4 x5 : Value} {r : List Value} (h : Box w b t (x0 :: x1 :: x2 :: x3 :: x4 :: x5 :: r)) : w.cell? ⟨b,0,none⟩ = some x0 ∧ w.cell? ⟨b,1,none⟩ = some x1 ∧ w.cell? ⟨b,2,none⟩ = some x2 ∧ w.cell? ⟨b,3,none⟩ = some x3 ∧ w.cell? ⟨b,4,none⟩ = some x4 ∧ w.cell? ⟨b,5,none⟩ = some x5 := ⟨h.cell 0 _ rfl,h.cell 1 _ rfl,h.cell 2 _ rfl,h.cell 3 _ rfl,h.cell 4 _ rfl,h.cell 5 _ rfl⟩
theorem Box.z6 {w : World} {b : Nat} {t : TypeId} {l : List Value} (h : Box w b t l) : w.frozen? ⟨b,0,none⟩ = false ∧ w.frozen? ⟨b,1,none⟩ = false ∧ w.frozen? ⟨b,2,none⟩ = false ∧ w.frozen? ⟨b,3,none⟩ = false ∧ w.frozen? ⟨b,4,none⟩ = false ∧ w.frozen? ⟨b,5,none⟩ = false := ⟨h.frozen 0,h.frozen 1,h.frozen 2,h.frozen 3,h.frozen 4,h.frozen 5⟩
theorem Box.c8 {w : World} {b : Nat} {t : TypeId} {x0 x1 x2 x3 x4 x5 x6 x7 : Value} {r : List Value} (h : Box w b t (x0 :: x1 :: x2 :: x3 :: x4 :: x5 :: x6 :: x7 :: r)) : w.cell? ⟨b,0,none⟩ = some x0 ∧ w.cell? ⟨b,1,none⟩ = some x1 ∧ w.cell? ⟨b,2,none⟩ = some x2 ∧ w.cell? ⟨b,3,none⟩ = some x3 ∧ w.cell? ⟨b,4,none⟩ = some x4 ∧ w.cell? ⟨b,5,none⟩ = some x5 ∧ w.cell? ⟨b,6,none⟩ = some x6 ∧ w.cell? ⟨b,7,none⟩ = some x7 := ⟨h.cell 0 _ rfl,h.cell 1 _ rfl,h.cell 2 _ rfl,h.cell 3 _ rfl,h.cell 4 _ rfl,h.cell 5 _ rfl,h.cell 6 _ rfl,h.cell 7 _ rfl⟩
theorem Box.z8 {w : World} {b : Nat} {t : TypeId} {l : List Value} (h : Box w b t l) : w.frozen? ⟨b,0,none⟩ = false ∧ w.frozen? ⟨b,1,none⟩ = false ∧ w.frozen? ⟨b,2,none⟩ = false ∧ w.frozen? ⟨b,3,none⟩ = false ∧ w.frozen? ⟨b,4,none⟩ = false ∧ w.frozen? ⟨b,5,none⟩ = false ∧ w.frozen? ⟨b,6,none⟩ = false ∧ w.frozen? ⟨b,7,none⟩ = false := ⟨h.frozen 0,h.frozen 1,h.frozen 2,h.frozen 3,h.frozen 4,h.frozen 5,h.frozen 6,h.frozen 7⟩
theorem Box.c9 {w : World} {b : Nat} {t : TypeId} {x0 x1 x2 x3 x4 x5 x6 x7 x8 : Value} {r : List Value} (h : Box w b t (x0 :: x1 :: x2 :: x3 :: x4 :: x5 :: x6 :: x7 :: x8 :: r)) : w.cell? ⟨b,0,none⟩ = some x0 ∧ w.cell? ⟨b,1,none⟩ = some x1 ∧ w.cell? ⟨b,2,none⟩ = some x2 ∧ w.cell? ⟨b,3,none⟩ = some x3 ∧ w.cell? ⟨b,4,none⟩ = some x4 ∧ w.cell? ⟨b,5,none⟩ = some x5 ∧ w.cell? ⟨b,6,none⟩ = some x6 ∧ w.cell? ⟨b,7,none⟩ = some x7 ∧ w.cell? ⟨b,8,none⟩ = some x8 := ⟨h.cell 0 _ rfl,h.cell 1 _ rfl,h.cell 2 _ rfl,h.cell 3 _ rfl,h.cell 4 _ rfl,h.cell 5 _ rfl,h.cell 6 _ rfl,h.cell 7 _ rfl,h.cell 8 _ rfl⟩
theorem Box.z9 {w : World} {b : Nat} {t : TypeId} {l : List Value} (h : Box w b t l) : w.frozen? ⟨b,0,none⟩ = false ∧ w.frozen? ⟨b,1,none⟩ = false ∧ w.frozen? ⟨b,2,none⟩ = false ∧ w.frozen? ⟨b,3,none⟩ = false ∧ w.frozen? ⟨b,4,none⟩ = false ∧ w.frozen? ⟨b,5,none⟩ = false ∧ w.frozen? ⟨b,6,none⟩ = false ∧ w.frozen? ⟨b,7,none⟩ = false ∧ w.frozen? ⟨b,8,none⟩ = false := ⟨h.frozen 0,h.frozen 1,h.frozen 2,h.frozen 3,h.frozen 4,h.frozen 5,h.frozen 6,h.frozen 7,h.frozen 8⟩
theorem Box.c10 {w : World} {b : Nat} {t : TypeId} {x0 x1 x2 x3 x4 x5 x6 x7 x8 x9 : Value} {r : List Value} (h : Box w b t (x0 :: x1 :: x2 :: x3 :: x4 :: x5 :: x6 :: x7 :: x8 :: x9 :: r)) : w.cell? ⟨b,0,none⟩ = some x0 ∧ w.cell? ⟨b,1,none⟩ = some x1 ∧ w.cell? ⟨b,2,none⟩ = some x2 ∧ w.cell? ⟨b,3,none⟩ = some x3 ∧ w.cell? ⟨b,4,none⟩ = some x4 ∧ w.cell? ⟨b,5,none⟩ = some x5 ∧ w.cell? ⟨b,6,none⟩ = some x6 ∧ w.cell? ⟨b,7,none⟩ = some x7 ∧ w.cell? ⟨b,8,none⟩ = some x8 ∧ w.cell? ⟨b,9,none⟩ = some x9 := ⟨h.cell 0 _ rfl,h.cell 1 _ rfl,h.cell 2 _ rfl,h.cell 3 _ rfl,h.cell 4 _ rfl,h.cell 5 _ rfl,h.cell 6 _ rfl,h.cell 7 _ rfl,h.cell 8 _ rfl,h.cell 9 _ rfl⟩
theorem Box.z10 {w : World} {b : Nat} {t : TypeId} {l : List Value} (h : Box w b t l) : w.frozen? ⟨b,0,none⟩ = false ∧ w.frozen? ⟨b,1,none⟩ = false ∧ w.frozen? ⟨b,2,none⟩ = false ∧ w.frozen? ⟨b,3,none⟩ = false ∧ w.frozen? ⟨b,4,none⟩ = false ∧ w.frozen? ⟨b,5,none⟩ = false ∧ w.frozen? ⟨b,6,none⟩ = false ∧ w.frozen? ⟨b,7,none⟩ = false ∧ w.frozen? ⟨b,8,none⟩ = false ∧ w.frozen? ⟨b,9,none⟩ = false := ⟨h.frozen 0,h.frozen 1,h.frozen 2,h.frozen 3,h.frozen 4,h.frozen 5,h.frozen 6,h.frozen 7,h.frozen 8,h.frozen 9⟩
theorem Box.c11 {w : World} {b : Nat} {t : TypeId} {x0 x1 x2 x3 x4 x5 x6 x7 x8 x9 x10 : Value} {r : List Value} (h : Box w b t (x0 :: x1 :: x2 :: x3 :: x4 :: x5 :: x6 :: x7 :: x8 :: x9 :: x10 :: r)) : w.cell? ⟨b,0,none⟩ = some x0 ∧ w.cell? ⟨b,1,none⟩ = some x1 ∧ w.cell? ⟨b,2,none⟩ = some x2 ∧ w.cell? ⟨b,3,none⟩ = some x3 ∧ w.cell? ⟨b,4,none⟩ = some x4 ∧ w.cell? ⟨b,5,none⟩ = some x5 ∧ w.cell? ⟨b,6,none⟩ = some x6 ∧ w.cell? ⟨b,7,none⟩ = some x7 ∧ w.cell? ⟨b,8,none⟩ = some x8 ∧ w.cell? ⟨b,9,none⟩ = some x9 ∧ w.cell? ⟨b,10,none⟩ = some x10 := ⟨h.cell 0 _ rfl,h.cell 1 _ rfl,h.cell 2 _ rfl,h.cell 3 _ rfl,h.cell 4 _ rfl,h.cell 5 _ rfl,h.cell 6 _ rfl,h.cell 7 _ rfl,h.cell 8 _ rfl,h.cell 9 _ rfl,h.cell 10 _ rfl⟩
theorem Box.z11 {w : World} {b : Nat} {t : TypeId} {l : List Value} (h : Box w b t l) : w.frozen? ⟨b,0,none⟩ = false ∧ w.frozen? ⟨b,1,none⟩ = false ∧ w.frozen? ⟨b,2,none⟩ = false ∧ w.frozen? ⟨b,3,none⟩ = false ∧ w.frozen? ⟨b,4,none⟩ = false ∧ w.frozen? ⟨b,5,none⟩ = false ∧ w.frozen? ⟨b,6,none⟩ = false ∧ w.frozen? ⟨b,7,none⟩ = false ∧ w.frozen? ⟨b,8,none⟩ = false ∧ w.frozen? ⟨b,9,none⟩ = false ∧ w.frozen? ⟨b,10,none⟩ = false := ⟨h.frozen 0,h.frozen 1,h.frozen 2,h.frozen 3,h.frozen 4,h.frozen 5,h.frozen 6,h.frozen 7,h.frozen 8,h.frozen 9,h.frozen 10⟩
theorem Box.lt {w : World} {b : Nat} {t : TypeId} {cs : List Value} (h : Box w b t cs) : b < w.heap.size := (Array.getElem?_eq_some_iff.1 h).1
theorem Box.below {w w' : World} {B b : Nat} {t : TypeId} {cs : List Value} (h : Box w b t cs) (hb : Below B w w') (hlt : b < B) : Box w' b t cs := by
 unfold Box at *
 rw[hb.block b hlt]; exact h
theorem Box.new (w : World) (t : TypeId) (cs : List Value) : Box (w.alloc (.cells cs.toArray t)) w.heap.size t cs := (MapKept.heap_alloc w _).1
theorem Box.alloc {w : World} {b : Nat} {t : TypeId} {cs : List Value} (h : Box w b t cs) (o : Obj) : Box (w.alloc o) b t cs := h.below (below_alloc w o) h.lt
theorem Box.set {w : World} {b : Nat} {t : TypeId} {cs : List Value} (h : Box w b t cs) (i : Nat) (v : Value) : Box (w.setCell ⟨b,i,none⟩ v) b t (cs.set i v) := by
 unfold Box at *
 simp[World.setCell,Array.getElem?_modify,h]
theorem Box.other {w : World} {b : Nat} {t : TypeId} {cs : List Value} (h : Box w b t cs) {a : Addr} (v : Value) (hne : b ≠ a.block) : Box (w.setCell a v) b t cs := by
 unfold Box at *
 rw[Below.heap_setCell _ _ _ _ hne]; exact h
theorem Box.grown {w w' : World} {b : Nat} {t : TypeId} {cs : List Value} {row : Option Nat} (h : Box w b t cs) (hg : w.grownBy w' row) (hne : row ≠ some b) : Box w' b t cs := by
 unfold Box at *
 rw[hg.block b (Array.getElem?_eq_some_iff.1 h).1 (fun e=>hne e.symm)]; exact h
theorem Box.drewN {w : World} {b : Nat} {t : TypeId} {cs : List Value} (h : Box w b t cs) (n : Nat) : Box (w.drewN n) b t cs := h

end Go.Proofs.YtmdgkjbiicaljahGreatDoor

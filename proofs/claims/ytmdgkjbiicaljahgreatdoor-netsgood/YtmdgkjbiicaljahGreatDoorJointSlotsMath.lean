/- Volumes that may be stay so. -/
import Derived.Test.YtmdgkjbiicaljahGreatDoorJointVolMem
import Derived.Test.YtmdgkjbiicaljahGreatDoorJointStageMath
import Derived.Lib.ItoaNum
set_option linter.unusedVariables false
set_option linter.unusedSimpArgs false
namespace Go.Proofs.YtmdgkjbiicaljahGreatDoor

/-- An operation that may be, on a volume that may be, leaves one that may be. -/
theorem didV_may (V : VolM) (o : OpM) (hv : volFault V = 0) (ho : opFault o = 0) : volFault (didV V o) = 0 := by
 have hm:=volMay_of V hv
 have hom:=opMay_of o ho
 unfold volMay at hm
 simp only[Bool.and_eq_true,decide_eq_true_eq,List.all_eq_true] at hm
 have hn:=secMay_len hm.1.1
 have may : ∀ X:VolM,secMay X.now=true→X.snaps.length≤3→(∀ l ∈ X.snaps,secMay l=true)→volFault X=0:=fun X a b c=>by
  unfold volFault volMay
  rw[a,decide_eq_true b,List.all_eq_true.2 c]
  rfl
 have hset : ∀ (x:List UInt8) (i:Nat),x.length≤8→secMay (V.now.set i x)=true:=fun x i hx=>by
  unfold secMay
  simp only[List.length_set,Bool.and_eq_true,List.all_eq_true,decide_eq_true_eq,beq_iff_eq]
  refine⟨fun s hs => ?_,hn.1⟩
  rcases List.mem_or_eq_of_mem_set hs with h | h
  ·exact hn.2 s h
  ·rw[h]; exact hx
 unfold didV
 split
 ·exact may _ (hset _ _ hom.2.2.2) hm.1.2 hm.2
 split
 ·exact may _ (hset _ _ (by simp)) hm.1.2 hm.2
 split
 ·exact hv
 split
 ·refine may _ hm.1.1 (by simp; omega) (fun l h => ?_)
  rcases List.mem_append.1 h with h | h
  ·exact hm.2 l h
  ·simp at h; rw[h]; exact hm.1.1
 ·exact hv

end Go.Proofs.YtmdgkjbiicaljahGreatDoor

/- How requests lie in memory. -/
namespace Go.Proofs.YtmdgkjbiicaljahGreatDoor
open Go.RowKit

def reqVal (r : ReqM) : Value := .agg #[.int .i64 r.client, .int .i64 r.num, .int .i64 r.op.kind, .int .i64 r.op.place, .int .i64 r.op.snap, .string ⟨r.op.data.toArray⟩]

end Go.Proofs.YtmdgkjbiicaljahGreatDoor

/- How requests, lists of lasts and states lie in memory. -/
namespace Go.Proofs.YtmdgkjbiicaljahGreatDoor
open Go.RowKit Go.WideShapes

def lastCells (x : LastM) : List Value := [.int .i64 x.num, .int .i64 x.rep.code, .int .i64 x.rep.n, .string ⟨x.rep.data.toArray⟩]
def lastsCells (l : List LastM) : List Value := l.flatMap lastCells

theorem lastsCells_cons (x : LastM) (l : List LastM) : lastsCells (x :: l) = lastCells x ++ lastsCells l := rfl
theorem lastsCells_len (l : List LastM) : (lastsCells l).length = l.length * 4 := by
 induction l with
 | nil=>rfl
 | cons x l ih=>rw[lastsCells_cons,List.length_append,ih]; simp[lastCells]; omega

theorem lastsCells_get : ∀ (l : List LastM) (i j : Nat),i < l.length → j < 4 → (lastsCells l)[i * 4 + j]? = (lastCells (l.getD i zeroLast))[j]?
 | x :: l,0,j,_,hj=>by
  rw[lastsCells_cons,List.getElem?_append_left (by simp[lastCells]; omega)]
  simp
 | x :: l,i+1,j,hi,hj=>by
  rw[lastsCells_cons,List.getElem?_append_right (by simp[lastCells]; omega)]
  have:(i+1) * 4+j - (lastCells x).length=i * 4+j:=by simp[lastCells]; omega
  rw[this,lastsCells_get l i j (by simpa using hi) hj]
  simp

theorem lastsCells_set : ∀ (l : List LastM) (i : Nat) (x : LastM),lastsCells (l.set i x) = ((((lastsCells l).set (i * 4) (.int .i64 x.num)).set (i * 4 + 1) (.int .i64 x.rep.code)).set (i * 4 + 2) (.int .i64 x.rep.n)).set (i * 4 + 3) (.string ⟨x.rep.data.toArray⟩)
 | [],i,x=>by simp[lastsCells]
 | y :: l,0,x=>by simp[lastsCells_cons,lastCells]
 | y :: l,i+1,x=>by
  have e0:(i+1) * 4=i * 4+4:=by omega
  rw[List.set_cons_succ,lastsCells_cons,lastsCells_cons,lastsCells_set l i x,e0]
  simp[lastCells,Nat.add_assoc,Nat.add_right_comm]

theorem lastsCells_one (l : List LastM) : ∀ u ∈ lastsCells l,u.oneCell' = true := by
 intro u hu
 obtain⟨x,_,hx⟩:=List.mem_flatMap.1 hu
 simp[lastCells] at hx
 rcases hx with rfl | rfl | rfl | rfl <;> rfl

/-- The value is a slice over lasts. -/
def LastsAt (w : World) (v : Value) (l : List LastM) : Prop :=
 ∃ a cap,v = .slice a l.length cap∧l.length * 40≤140737488355328 ∧ ∀ i,i < l.length → ∃ b o,a=some ⟨b,o,none⟩∧w.cell? ⟨b,o+i * 4,none⟩=some (.int .i64 (l.getD i zeroLast).num) ∧
  w.cell? ⟨b,o+i * 4+1,none⟩=some (.int .i64 (l.getD i zeroLast).rep.code)∧w.cell? ⟨b,o+i * 4+2,none⟩=some (.int .i64 (l.getD i zeroLast).rep.n) ∧
  w.cell? ⟨b,o+i * 4+3,none⟩=some (.string ⟨(l.getD i zeroLast).rep.data.toArray⟩)∧(l.getD i zeroLast).rep.data.length≤140737488355328

theorem LastsAt.below {w w' : World} {v : Value} {l : List LastM} (h : LastsAt w v l) (hb : Below w.heap.size w w') : LastsAt w' v l := by
 obtain⟨a,cap,hv,hl,hc⟩:=h
 refine⟨a,cap,hv,hl,fun i hi => ?_⟩
 obtain⟨b,o,ha,c0,c1,c2,c3,hs⟩:=hc i hi
 have lt:=lt_of_cell c0
 exact⟨b,o,ha,(hb.cell (p:=⟨b,_,none⟩) lt).trans c0,(hb.cell (p:=⟨b,_,none⟩) lt).trans c1,(hb.cell (p:=⟨b,_,none⟩) lt).trans c2,(hb.cell (p:=⟨b,_,none⟩) lt).trans c3,hs⟩

theorem lastsCells_inv (l : List LastM) {k : Nat} {u : Value} (h : (lastsCells l)[k]? = some u) : ∃ i j,k = i * 4 + j ∧ j < 4 ∧ i < l.length ∧ (lastCells (l.getD i zeroLast))[j]? = some u := by
 have hk:=(List.getElem?_eq_some_iff.1 h).1
 rw[lastsCells_len] at hk
 refine⟨k / 4,k % 4,by omega,by omega,by omega, ?_⟩
 rw[← lastsCells_get l (k / 4) (k % 4) (by omega) (by omega),show k / 4 * 4+k % 4=k by omega]
 exact h

theorem LastsAt.row {w : World} {v : Value} {l : List LastM} (h : LastsAt w v l) : RowAt w v l.length 4 (lastsCells l) := by
 obtain⟨a,cap,hv,hl,hc⟩:=h
 refine⟨a,cap,hv,lastsCells_len l,fun k u hk => ?_⟩
 obtain⟨i,j,rfl,hj,hi,hu⟩:=lastsCells_inv l hk
 obtain⟨b,o,ha,c0,c1,c2,c3,_⟩:=hc i hi
 refine⟨⟨b,o,none⟩,ha, ?_⟩
 rw[add_plain,← Nat.add_assoc]
 match j,hj with
 | 0,_=>rw[Nat.add_zero,c0]; simpa [lastCells] using hu
 | 1,_=>rw[c1]; simpa [lastCells] using hu
 | 2,_=>rw[c2]; simpa [lastCells] using hu
 | 3,_=>rw[c3]; simpa [lastCells] using hu

theorem LastsAt.of_own {w : World} {base : Nat} {e : TypeId} {v : Value} {l : List LastM} (h : w.ownsRow base e 4 v l.length (lastsCells l)) (h1 : l.length * 40 ≤ 140737488355328) (h2 : ∀ x ∈ l,x.rep.data.length ≤ 140737488355328) : LastsAt w v l := by
 obtain⟨a,cap,hv⟩:=own_formN h
 refine⟨a,cap,hv,h1,fun i hi => ?_⟩
 have key : ∀ j,j < 4 → ∃ g,a=some ⟨g,0,none⟩∧w.cell? ⟨g,0+i * 4+j,none⟩=(lastCells (l.getD i zeroLast))[j]? := fun j hj=>by
  obtain⟨g,cap',hv',_,_,hc,_⟩:=own_cellN h (by decide) (i * 4+j) (by omega)
  rw[hv] at hv'
  cases hv'
  exact⟨g,rfl,by rw[Nat.zero_add,hc,lastsCells_get l i j hi hj]⟩
 obtain⟨g,ha,c0⟩:=key 0 (by decide)
 obtain⟨g1,ha1,c1⟩:=key 1 (by decide)
 obtain⟨g2,ha2,c2⟩:=key 2 (by decide)
 obtain⟨g3,ha3,c3⟩:=key 3 (by decide)
 rw[ha] at ha1 ha2 ha3
 cases ha1
 cases ha2
 cases ha3
 have e1:l.getD i zeroLast=l[i]:=by simp[List.getD,hi]
 exact⟨g,0,ha,by simpa [lastCells] using c0,by simpa [lastCells] using c1,by simpa [lastCells] using c2,by simpa [lastCells] using c3,by rw[e1]; exact h2 _ (List.getElem_mem hi)⟩

theorem LastsAt.texts {w : World} {v : Value} {l : List LastM} (h : LastsAt w v l) : l.length * 40 ≤ 140737488355328 ∧ ∀ x ∈ l,x.rep.data.length ≤ 140737488355328 := by
 obtain⟨a,cap,hv,hl,hc⟩:=h
 refine⟨hl,fun x hx => ?_⟩
 obtain⟨i,hi,rfl⟩:=List.mem_iff_getElem.1 hx
 obtain⟨_,_,_,_,_,_,_,hs⟩:=hc i hi
 simpa [List.getD,hi] using hs

/-- The value is a state. -/
def StAt (w : World) (v : Value) (S : StateM) : Prop := ∃ vn vs vl,v = .agg #[vn,vs,vl] ∧ VolAt w (.agg #[vn,vs]) S.vol ∧ LastsAt w vl S.lasts
theorem StAt.below {w w' : World} {v : Value} {S : StateM} (h : StAt w v S) (hb : Below w.heap.size w w') : StAt w' v S := by
 obtain⟨vn,vs,vl,hv,h1,h2⟩:=h
 exact⟨vn,vs,vl,hv,h1.below hb,h2.below hb⟩

/-- A state in memory of the call's own, from block B on. -/
def StNew (w : World) (B : Nat) (v : Value) (S : StateM) : Prop :=
 ∃ vn vs vl,v = .agg #[vn,vs,vl]∧VolNew w B (.agg #[vn,vs]) S.vol∧w.ownsRow B 76 4 vl S.lasts.length (lastsCells S.lasts)
theorem StNew.below {w w' : World} {B : Nat} {v : Value} {S : StateM} (h : StNew w B v S) (hb : Below w.heap.size w w') : StNew w' B v S := by
 obtain⟨vn,vs,vl,hv,h1,h2⟩:=h
 exact⟨vn,vs,vl,hv,h1.below hb,own_below h2 hb (own_lt h2)⟩
theorem StNew.base {w : World} {B B' : Nat} {v : Value} {S : StateM} (h : StNew w B v S) (hb : B' ≤ B) : StNew w B' v S := by
 obtain⟨vn,vs,vl,hv,h1,h2⟩:=h
 exact⟨vn,vs,vl,hv,h1.base hb,own_base h2 hb⟩
theorem StNew.other {w : World} {B : Nat} {v : Value} {S : StateM} (h : StNew w B v S) {a : Addr} (ha : a.block < B) (x : Value) : StNew (w.setCell a x) B v S := by
 obtain⟨vn,vs,vl,hv,h1,h2⟩:=h
 exact⟨vn,vs,vl,hv,h1.other ha x,ownsRow_setCell_below h2 ha x⟩
theorem StNew.drew {w : World} {B : Nat} {v : Value} {S : StateM} (h : StNew w B v S) : StNew w.drew B v S := h
theorem StNew.form {w : World} {B : Nat} {v : Value} {S : StateM} (h : StNew w B v S) : ∃ a c a' c' a'' c'',v = .agg #[.slice a S.vol.now.length c, .slice a' S.vol.snaps.length c', .slice a'' S.lasts.length c''] := by
 obtain⟨vn,vs,vl,rfl,h1,h2⟩:=h
 obtain⟨a,c,a',c',hv⟩:=h1.form
 cases hv
 obtain⟨a'',c'',rfl⟩:=own_formN h2
 exact⟨_,_,_,_,_,_,rfl⟩

/-- Sizes within the form's own reach. -/
structure StFits (S : StateM) : Prop where
 vol:VolFits S.vol
 now : ∀ s ∈ S.vol.now,s.length≤140737488355328
 snaps : ∀ l ∈ S.vol.snaps,∀ s ∈ l,s.length≤140737488355328
 lasts:S.lasts.length * 40≤140737488355328
 texts : ∀ x ∈ S.lasts,x.rep.data.length≤140737488355328

theorem StNew.at {w : World} {B : Nat} {v : Value} {S : StateM} (h : StNew w B v S) (hz : StFits S) : StAt w v S := by
 obtain⟨vn,vs,vl,hv,h1,h2⟩:=h
 exact⟨vn,vs,vl,hv,h1.at hz.vol hz.now hz.snaps,LastsAt.of_own h2 hz.lasts hz.texts⟩
theorem StAt.fits {w : World} {v : Value} {S : StateM} (h : StAt w v S) (hf : VolFits S.vol) : StFits S := by
 obtain⟨vn,vs,vl,hv,h1,h2⟩:=h
 exact⟨hf,h1.texts.1,h1.texts.2,h2.texts.1,h2.texts.2⟩
theorem zeroSt_fits : StFits zeroSt := ⟨⟨by decide,by decide,fun l hl => by simp [zeroSt] at hl⟩,fun l hl => by simp [zeroSt] at hl,fun l hl => by simp [zeroSt] at hl,by decide,fun l hl => by simp [zeroSt] at hl⟩
theorem StNew.nil (w : World) (B : Nat) : StNew w B (.agg #[.slice none 0 0, .slice none 0 0, .slice none 0 0]) zeroSt :=
 ⟨_,_,_,rfl,VolNew.nil w B,World.ownsRow_nil _ _ _ _⟩

def newSt : StateM := ⟨newVol,List.replicate 4 zeroLast⟩
theorem newSt_fits : StFits newSt := ⟨newVol_fits,fun s hs => by simp [newSt,newVol] at hs; simp [hs],fun l hl => by simp [newSt,newVol] at hl,by decide,fun x hx => by simp [newSt,zeroLast] at hx; simp [hx]⟩

end Go.Proofs.YtmdgkjbiicaljahGreatDoor

/- What entries leave of states that may be. -/
namespace Go.Proofs.YtmdgkjbiicaljahGreatDoor
open Go.RowKit

theorem stMay_of (S : StateM) (h : stFault S = 0) : volFault S.vol = 0 ∧ S.lasts.length = 4 ∧ ∀ x ∈ S.lasts,0 ≤ x.num ∧ x.num ≤ 1048576 := by
 unfold stFault at h
 split at h
 ·rename_i h1
  unfold lastsMay at h1
  simp at h1
  exact⟨h,h1.1,h1.2⟩
 ·omega

theorem didR_data (V : VolM) (o : OpM) (hv : volFault V = 0) : (didR V o).data.length ≤ 8 := by
 have hm:=volMay_of V hv
 unfold volMay at hm
 simp only[Bool.and_eq_true,decide_eq_true_eq,List.all_eq_true] at hm
 have getD_le : ∀ (l:List (List UInt8)) (i:Nat),(∀ s ∈ l,s.length≤8)→(l.getD i []).length≤8:=fun l i h=>by
  by_cases hi:i < l.length
  ·rw[show l.getD i []=l[i] by simp[List.getD,hi]]; exact h _ (List.getElem_mem hi)
  ·simp[List.getD,List.getElem?_eq_none (Nat.le_of_not_lt hi)]
 unfold didR
 split
 ·split
  ·simp
  split
  ·refine getD_le _ _ fun s hs => ?_
   generalize (o.snap - 1).toNat=j at hs
   by_cases hi:j < V.snaps.length
   ·have e:V.snaps.getD j []=V.snaps[j]:=by simp[List.getD,hi]
    rw[e] at hs
    exact (secMay_len (hm.2 _ (List.getElem_mem hi))).2 s hs
   ·simp[List.getD,List.getElem?_eq_none (Nat.le_of_not_lt hi)] at hs
  ·exact getD_le _ _ (secMay_len hm.1.1).2
 split
 ·split <;> simp
 ·simp

theorem decE_req (s : List UInt8) (h1 : decE s = 0) : reqFault (reqOf s) = 0 := by
 unfold decE at h1
 repeat' split at h1
 all_goals first | omega | exact h1

theorem appS_fits (S : StateM) (s : List UInt8) (h : StFits S) : StFits (appS S s) := by
 unfold appS
 split
 ·rename_i he
  have h0:stFault S=0:=by
   unfold appE at he
   split at he
   ·assumption
   ·exact he
  have h1:decE s=0:=by unfold appE at he; rw[if_pos h0] at he; exact he
  have hr:=reqMay_of _ (decE_req s h1)
  have hS:=stMay_of S h0
  unfold doneS
  split
  ·obtain⟨f1,f2,f3⟩:=didV_fits S.vol (reqOf s).op hS.1 hr.2.2
   refine⟨f1,fun x hx=>by have:=f2 x hx; omega,fun l hl x hx=>by have:=f3 l hl x hx; omega,by simpa using h.lasts,fun x hx => ?_⟩
   rcases List.mem_or_eq_of_mem_set hx with hx | rfl
   ·exact h.texts x hx
   ·have:=didR_data S.vol (reqOf s).op hS.1
    show (didR S.vol (reqOf s).op).data.length≤_
    omega
  ·exact h
 ·exact zeroSt_fits

end Go.Proofs.YtmdgkjbiicaljahGreatDoor

/- What is asked again is not done again. -/
namespace Go.Proofs.YtmdgkjbiicaljahGreatDoor

theorem newSt_may : stFault newSt = 0 := by decide

theorem appE_of {S : StateM} {s : List UInt8} (h0 : stFault S = 0) (h1 : decE s = 0) : appE S s = 0 := by unfold appE; rw [if_pos h0]; exact h1

/-- An entry that may be leaves a state that may be. -/
theorem appS_may (S : StateM) (s : List UInt8) (h0 : stFault S = 0) (h1 : decE s = 0) : stFault (appS S s) = 0 := by
 have hS:=stMay_of S h0
 have hr:=reqMay_of _ (decE_req s h1)
 unfold appS
 rw[if_pos (appE_of h0 h1)]
 unfold doneS
 split
 ·unfold stFault
  have hl:lastsMay (S.lasts.set ((reqOf s).client - 1).toNat ⟨(reqOf s).num,didR S.vol (reqOf s).op⟩)=true:=by
   unfold lastsMay
   simp only[List.length_set,Bool.and_eq_true,beq_iff_eq,List.all_eq_true,decide_eq_true_eq]
   refine⟨hS.2.1,fun x hx => ?_⟩
   rcases List.mem_or_eq_of_mem_set hx with hx | rfl
   ·exact hS.2.2 x hx
   ·exact⟨by show 0≤(reqOf s).num; omega,by show (reqOf s).num≤_; omega⟩
  rw[if_pos hl]
  exact didV_may S.vol _ hS.1 hr.2.2
 ·exact h0

end Go.Proofs.YtmdgkjbiicaljahGreatDoor

/- A request is read as it was written; cut short, or longer, it is not. -/
namespace Go.Proofs.YtmdgkjbiicaljahGreatDoor

theorem entryB_len (r : ReqM) : (entryB r).length = 9 + r.op.data.length := by
 simp[entryB,length_num]; omega

theorem numE_num (n : Int) (h0 : 0 ≤ n) (h1 : n ≤ 1073741824) (s : List UInt8) : numE (numBytes n ++ s) = 0 ∧ numV (numBytes n ++ s) = n ∧ numR (numBytes n ++ s) = s := by
 have hl : ¬ (numBytes n ++ s).length < 4:=by simp[length_num]
 have e:numE (numBytes n ++ s)=0:=by unfold numE; rw[if_neg hl,if_pos (by rw[valN_num n h0 h1]; exact h1)]
 refine⟨e, ?_, ?_⟩
 ·unfold numV; rw[if_pos e,valN_num n h0 h1]
 ·unfold numR; rw[if_pos e,drop_num]

theorem txt_txt (d t : List UInt8) (h : d.length ≤ 255) : txtE (b8 d.length :: (d ++ t)) = 0 ∧ txtD (b8 d.length :: (d ++ t)) = d ∧ txtR (b8 d.length :: (d ++ t)) = t := by
 have e:=b8_len d h
 have hl : ¬ (d ++ t).length < (b8 d.length).toNat:=by rw[e]; simp
 refine⟨?_, ?_, ?_⟩
 ·simp only[txtE]; rw[if_neg hl]
 ·simp only[txtD]; rw[if_neg hl,take_len d t h]
 ·simp only[txtR]; rw[if_neg hl,drop_len d t h]

end Go.Proofs.YtmdgkjbiicaljahGreatDoor

/- The plain mathematics of the raw things that the laws draw: operations. -/
namespace Go.Proofs.YtmdgkjbiicaljahGreatDoor

structure RawM where
 kind:Int
 a:Int
 b:Int
 c:Int

/-- What the laws' function Op makes of a raw thing. -/
def opOf (r : RawM) : OpM :=
 if pickN r.kind 12 < 5 then ⟨1,pickN r.a 6,0,119 :: Go.Lib.itoa (pickN r.b 1000)⟩
 else if pickN r.kind 12=5 then ⟨2,pickN r.a 6,0,[]⟩
 else if pickN r.kind 12=6 then ⟨4,0,0,[]⟩
 else ⟨3,pickN r.a 6,max 0 (pickN r.b 6 - 2),[]⟩

theorem decDigits_len (u : Nat) (h : u < 1000) : (Go.Lib.decDigits u).length ≤ 3 := by
 rw[Go.Lib.decDigits]
 split
 ·simp
 ·rw[Go.Lib.decDigits]
  split
  ·simp
  ·rw[Go.Lib.decDigits]
   split
   ·simp
   ·omega

theorem itoa_len (n : Int) (h0 : 0 ≤ n) (h1 : n < 1000) : (Go.Lib.itoa n).length ≤ 3 := by
 unfold Go.Lib.itoa
 rw[if_neg (by omega)]
 exact decDigits_len _ (by omega)

theorem opOf_ok (r : RawM) : opFault (opOf r) = 0 := by
 have h1:=pickN_bd r.a 6 (by omega)
 have h2:=pickN_bd r.b 1000 (by omega)
 have h3:=pickN_bd r.b 6 (by omega)
 have h4:=itoa_len _ h2.1 h2.2
 unfold opOf opFault
 split
 ·simp only[List.length_cons]
  unfold opFaultN
  repeat' split
  all_goals first | rfl | (exfalso; omega)
 split
 ·unfold opFaultN
  simp only[List.length_nil]
  repeat' split
  all_goals first | rfl | (exfalso; omega)
 split
 ·rfl
 ·unfold opFaultN
  simp only[List.length_nil]
  repeat' split
  all_goals first | rfl | (exfalso; omega)

end Go.Proofs.YtmdgkjbiicaljahGreatDoor

/- The plain mathematics of the requests that the laws draw. -/
namespace Go.Proofs.YtmdgkjbiicaljahGreatDoor

end Go.Proofs.YtmdgkjbiicaljahGreatDoor

/- What was written is read; a part of it is not; nor is it if a byte is another one. -/
namespace Go.Proofs.YtmdgkjbiicaljahGreatDoor

/-! Numbers and texts, one behind another, read as they were written. -/
theorem nums_back (ns : List Int) (t : List UInt8) (h : ∀ x ∈ ns,0 ≤ x ∧ x ≤ 1073741824) :
  numsE ns.length (ns.flatMap numBytes ++ t)=0∧numsV ns.length (ns.flatMap numBytes ++ t)=ns∧numsR ns.length (ns.flatMap numBytes ++ t)=t:=by
 induction ns with
 | nil=>exact⟨rfl,rfl,rfl⟩
 | cons x ns ih =>
  have hx:=h x (by simp)
  obtain⟨i1,i2,i3⟩:=ih fun y hy=>h y (by simp[hy])
  obtain⟨e1,e2,e3⟩:=numE_num x hx.1 hx.2 (ns.flatMap numBytes ++ t)
  have c:(x :: ns).flatMap numBytes ++ t=numBytes x ++ (ns.flatMap numBytes ++ t):=by simp[List.flatMap_cons]
  rw[c]
  refine⟨?_, ?_, ?_⟩
  ·show (if numE (numBytes x ++ (ns.flatMap numBytes ++ t))=0 then numsE ns.length (numR (numBytes x ++ (ns.flatMap numBytes ++ t))) else _)=0
   rw[if_pos e1,e3,i1]
  ·show numV _ :: numsV ns.length (numR _)=_
   rw[e2,e3,i2]
  ·show numsR ns.length (numR _)=_
   rw[e3,i3]

theorem txts_back (l : List (List UInt8)) (t : List UInt8) (h : ∀ s ∈ l,s.length ≤ 255) :
  txtsE l.length (l.flatMap txtB ++ t)=0∧txtsD l.length (l.flatMap txtB ++ t)=l∧txtsR l.length (l.flatMap txtB ++ t)=t:=by
 induction l with
 | nil=>exact⟨rfl,rfl,rfl⟩
 | cons x l ih =>
  obtain⟨i1,i2,i3⟩:=ih fun y hy=>h y (by simp[hy])
  obtain⟨e1,e2,e3⟩:=txt_txt x (l.flatMap txtB ++ t) (h x (by simp))
  have c:(x :: l).flatMap txtB ++ t=b8 x.length :: (x ++ (l.flatMap txtB ++ t)):=by simp[List.flatMap_cons,txtB]
  rw[c]
  refine⟨?_, ?_, ?_⟩
  ·show (if txtE (b8 x.length :: (x ++ (l.flatMap txtB ++ t)))=0 then txtsE l.length (txtR (b8 x.length :: (x ++ (l.flatMap txtB ++ t)))) else _)=0
   rw[if_pos e1,e3,i1]
  ·show txtD _ :: txtsD l.length (txtR _)=_
   rw[e2,e3,i2]
  ·show txtsR l.length (txtR _)=_
   rw[e3,i3]

/-- What stands behind is left. -/
theorem num_more (t u : List UInt8) (h : numE t = 0) : numE (t ++ u) = 0 ∧ numV (t ++ u) = numV t ∧ numR (t ++ u) = numR t ++ u := by
 have hl : ¬ t.length < 4:=by
  intro hl
  unfold numE at h
  rw[if_pos hl] at h
  omega
 have hv:valN (t ++ u) 4=valN t 4:=by
  have b : ∀ k,k < 4→(t ++ u).getD k 0=t.getD k 0:=fun k hk=>by
   simp only[List.getD]
   rw[List.getElem?_append_left (by omega)]
  simp only[valN]
  rw[b 0 (by omega),b 1 (by omega),b 2 (by omega),b 3 (by omega)]
 have e:numE (t ++ u)=numE t:=by
  unfold numE
  rw[if_neg hl,if_neg (by rw[List.length_append]; omega),hv]
 refine⟨by rw[e,h], ?_, ?_⟩
 ·unfold numV
  rw[e,hv]
 ·unfold numR
  rw[e,if_pos h,if_pos h,List.drop_append_of_le_length (by omega)]

theorem nums_more (n : Nat) (t u : List UInt8) (h : numsE n t = 0) : numsE n (t ++ u) = 0 ∧ numsV n (t ++ u) = numsV n t ∧ numsR n (t ++ u) = numsR n t ++ u := by
 induction n generalizing t with
 | zero=>exact⟨rfl,rfl,rfl⟩
 | succ n ih =>
  have h' : (if numE t=0 then numsE n (numR t) else numE t)=0:=h
  by_cases hn:numE t=0
  ·rw[if_pos hn] at h'
   obtain⟨e1,e2,e3⟩:=num_more t u hn
   obtain⟨i1,i2,i3⟩:=ih (numR t) h'
   refine⟨?_, ?_, ?_⟩
   ·show (if numE (t ++ u)=0 then numsE n (numR (t ++ u)) else _)=0
    rw[if_pos e1,e3,i1]
   ·show numV (t ++ u) :: numsV n (numR (t ++ u))=numV t :: numsV n (numR t)
    rw[e2,e3,i2]
   ·show numsR n (numR (t ++ u))=numsR n (numR t) ++ u
    rw[e3,i3]
  ·rw[if_neg hn] at h'
   exact absurd h' hn

theorem txt_more (t u : List UInt8) (h : txtE t = 0) : txtE (t ++ u) = 0 ∧ txtD (t ++ u) = txtD t ∧ txtR (t ++ u) = txtR t ++ u := by
 cases t with
 | nil=>simp[txtE] at h
 | cons c r =>
  have hl : ¬ r.length < c.toNat:=by
   intro hl
   simp[txtE,hl] at h
  have hl2 : ¬ (r ++ u).length < c.toNat:=by rw[List.length_append]; omega
  refine⟨?_, ?_, ?_⟩
  ·simp only[List.cons_append,txtE,if_neg hl2]
  ·simp only[List.cons_append,txtD,if_neg hl,if_neg hl2]
   rw[List.take_append_of_le_length (by omega)]
  ·simp only[List.cons_append,txtR,if_neg hl,if_neg hl2]
   rw[List.drop_append_of_le_length (by omega)]

theorem txts_more (n : Nat) (t u : List UInt8) (h : txtsE n t = 0) : txtsE n (t ++ u) = 0 ∧ txtsD n (t ++ u) = txtsD n t ∧ txtsR n (t ++ u) = txtsR n t ++ u := by
 induction n generalizing t with
 | zero=>exact⟨rfl,rfl,rfl⟩
 | succ n ih =>
  have h' : (if txtE t=0 then txtsE n (txtR t) else txtE t)=0:=h
  by_cases hn:txtE t=0
  ·rw[if_pos hn] at h'
   obtain⟨e1,e2,e3⟩:=txt_more t u hn
   obtain⟨i1,i2,i3⟩:=ih (txtR t) h'
   refine⟨?_, ?_, ?_⟩
   ·show (if txtE (t ++ u)=0 then txtsE n (txtR (t ++ u)) else _)=0
    rw[if_pos e1,e3,i1]
   ·show txtD (t ++ u) :: txtsD n (txtR (t ++ u))=txtD t :: txtsD n (txtR t)
    rw[e2,e3,i2]
   ·show txtsR n (txtR (t ++ u))=txtsR n (txtR t) ++ u
    rw[e3,i3]
  ·rw[if_neg hn] at h'
   exact absurd h' hn

theorem bodyE_parts (t : List UInt8) (h : bodyE t = 0) : numsE 6 t = 0 ∧ txtsE (nAt t 5).toNat (numsR 6 t) = 0 ∧ txtsR (nAt t 5).toNat (numsR 6 t) = [] := by
 unfold bodyE at h
 split at h
 ·rename_i q; exact absurd h q
 ·rename_i q
  split at h
  ·omega
  ·split at h
   ·rename_i q2; exact absurd h q2
   ·rename_i q2
    split at h
    ·omega
    ·rename_i q3
     exact⟨by simpa using q,by simpa using q2,by simpa using q3⟩

theorem bodyE_more (t u : List UInt8) (h : bodyE t = 0) (h' : bodyE (t ++ u) = 0) : u = [] := by
 obtain⟨a1,a2,a3⟩:=bodyE_parts t h
 obtain⟨b1,b2,b3⟩:=bodyE_parts (t ++ u) h'
 obtain⟨e1,e2,e3⟩:=nums_more 6 t u a1
 have en:nAt (t ++ u) 5=nAt t 5:=by unfold nAt; rw[e2]
 rw[en,e3] at b3
 obtain⟨_,_,f3⟩:=txts_more (nAt t 5).toNat (numsR 6 t) u a2
 rw[f3,a3] at b3
 simpa using b3

theorem seal_len (l : List UInt8) : (sealBytes l).length = 4 := rfl

/-- P4.2 and P4.3: what was written is read. -/
theorem kept_back (K : KeptM) (g : Int) (h : keptFault K = 0) (hg : 0 ≤ g ∧ g ≤ 1073741824) : kdecE (keptB K g) = 0 ∧ kdecK (keptB K g) = K ∧ kdecG (keptB K g) = g ∧ bodyE (bodyB K g) = 0 := by
 have m:=keptMay_of K h
 have hlen:=keptB_len K g h
 have hd:(keptB K g).drop 4=bodyB K g:=rfl
 have ht:(keptB K g).take 4=sealBytes (bodyB K g):=rfl
 have h4:4≤(keptB K g).length:=by unfold keptB; rw[List.length_append,seal_len]; omega
 have hn : ∀ x ∈ keptNums K g,0≤x∧x≤1073741824:=by
  intro x hx
  have hl:=m.len
  simp only[keptNums,List.mem_cons,List.not_mem_nil,or_false] at hx
  rcases hx with rfl | rfl | rfl | rfl | rfl | rfl
  ·exact hg
  ·exact⟨m.v0,by have:=m.v1; omega⟩
  ·exact⟨m.n0,by have:=m.v1; have:=m.n1; omega⟩
  ·unfold bit; split <;> omega
  ·exact⟨m.c0,by have:=m.c1; omega⟩
  ·omega
 obtain⟨a1,a2,a3⟩:=nums_back (keptNums K g) (K.log.flatMap txtB) hn
 have e6:(keptNums K g).length=6:=rfl
 rw[e6] at a1 a2 a3
 have hb:(keptNums K g).flatMap numBytes ++ K.log.flatMap txtB=bodyB K g:=rfl
 rw[hb] at a1 a2 a3
 have n0:nAt (bodyB K g) 0=g:=by unfold nAt; rw[a2]; rfl
 have n1:nAt (bodyB K g) 1=K.view:=by unfold nAt; rw[a2]; rfl
 have n2:nAt (bodyB K g) 2=K.normal:=by unfold nAt; rw[a2]; rfl
 have n3:nAt (bodyB K g) 3=bit K.calm:=by unfold nAt; rw[a2]; rfl
 have n4:nAt (bodyB K g) 4=K.commit:=by unfold nAt; rw[a2]; rfl
 have n5:nAt (bodyB K g) 5=K.log.length:=by unfold nAt; rw[a2]; rfl
 obtain⟨t1,t2,t3⟩:=txts_back K.log [] fun s hs=>by have:=decE_len s (m.log s hs); omega
 rw[List.append_nil] at t1 t2 t3
 have hkp:keptP (bodyB K g)=K:=by
  unfold keptP
  rw[n1,n2,n3,n4,n5,a3,Int.toNat_natCast,t2]
  obtain⟨vw,nm,cm,l,ct⟩:=K
  cases cm <;> rfl
 have hbe:bodyE (bodyB K g)=0:=by
  unfold bodyE
  rw[if_neg (by simpa using a1),n3,n5,a3,Int.toNat_natCast,if_neg,if_neg (by simpa using t1),if_neg (by simpa using t3),hkp,h]
  have:=m.len
  unfold bit
  split <;> omega
 have he:kdecE (keptB K g)=0:=by
  rw[kdec_body _ (by omega) (by omega) (by rw[hd,ht]),hd,hbe]
 refine⟨he, ?_, ?_,hbe⟩
 ·unfold kdecK; rw[if_pos he,hd,hkp]
 ·unfold kdecG; rw[if_pos he,hd,n0]

/-- A part of it is not read. -/
theorem kept_torn (K : KeptM) (g : Int) (k : Nat) (h : keptFault K = 0) (hg : 0 ≤ g ∧ g ≤ 1073741824) (hk : k < (keptB K g).length) : kdecE ((keptB K g).take k) ≠ 0 := by
 intro he
 obtain⟨_,_,_,hb⟩:=kept_back K g h hg
 have hk4 : ¬ ((keptB K g).take k).length < 4:=by
  intro hlt
  unfold kdecE at he
  split at he
  ·omega
  ·first
    | omega
    | (rw[if_pos hlt] at he; omega)
 rw[List.length_take] at hk4
 have hbody:bodyE (((keptB K g).take k).drop 4)=0:=by
  unfold kdecE at he
  split at he
  ·omega
  ·split at he
   ·omega
   ·split at he
    ·omega
    ·exact he
 have hd:(keptB K g).drop 4=bodyB K g:=rfl
 have e1:((keptB K g).take k).drop 4=(bodyB K g).take (k - 4):=by rw[← hd,List.drop_take]
 rw[e1] at hbody
 have hcut:(bodyB K g).take (k - 4) ++ (bodyB K g).drop (k - 4)=bodyB K g:=List.take_append_drop _ _
 have:=bodyE_more _ ((bodyB K g).drop (k - 4)) hbody (by rw[hcut]; exact hb)
 have hl:=congrArg List.length this
 rw[List.length_drop,List.length_nil] at hl
 have hkl:(keptB K g).length=4+(bodyB K g).length:=by unfold keptB; rw[List.length_append,seal_len]
 omega

/-! A byte that is another one is told by the seal. -/

/-! Slots that were stored into. -/
theorem fresh_fault : keptFault freshK = 0 := by decide
theorem slot0 (a b : List UInt8) : slot [a,b] 0 = a := rfl
theorem slot1 (a b : List UInt8) : slot [a,b] 1 = b := rfl
theorem load_two (a b : List UInt8) : loadE [a,b] = if kdecE a = 0 ∨ kdecE b = 0 then 0 else 13 := rfl
/-- The second slot tells. -/
theorem load_second (a b : List UInt8) (hb : kdecE b = 0) (h : kdecE a ≠ 0 ∨ kdecG a < kdecG b) : loadE [a,b] = 0 ∧ loadA [a,b] = 1 ∧ loadG [a,b] = kdecG b ∧ loadK [a,b] = kdecK b := by
 have e:loadE [a,b]=0:=by rw[load_two,if_pos (Or.inr hb)]
 have s:second [a,b]=true:=by
  unfold second
  rw[slot0,slot1]
  rcases h with h | h
  ·simp[hb,h]
  ·simp[hb,h]
 refine⟨e, ?_, ?_, ?_⟩
 ·unfold loadA; rw[if_pos e,s]; rfl
 ·unfold loadG; rw[if_pos e,s,slot1]; rfl
 ·unfold loadK; rw[if_pos e,s,slot1]; rfl
/-- The first slot tells. -/
theorem load_first (a b : List UInt8) (ha : kdecE a = 0) (h : kdecE b ≠ 0 ∨ kdecG b ≤ kdecG a) : loadE [a,b] = 0 ∧ loadA [a,b] = 0 ∧ loadG [a,b] = kdecG a ∧ loadK [a,b] = kdecK a := by
 have e:loadE [a,b]=0:=by rw[load_two,if_pos (Or.inl ha)]
 have s:second [a,b]=false:=by
  unfold second
  rw[slot0,slot1]
  rcases h with h | h
  ·simp[h]
  ·simp[ha]; intro _; omega
 refine⟨e, ?_, ?_, ?_⟩
 ·unfold loadA; rw[if_pos e,s]; rfl
 ·unfold loadG; rw[if_pos e,s,slot0]; rfl
 ·unfold loadK; rw[if_pos e,s,slot0]; rfl

/-! What is made of raw things. -/

end Go.Proofs.YtmdgkjbiicaljahGreatDoor

import Derived.Test.YtjfnbnofjademaaGreatDoorJointStageMath
import Derived.Test.YtjfnbnofjademaaGreatDoorJointOpMem
import Derived.Test.YtjfnbnofjademaaGreatDoorJointProtMath
import Derived.Test.YtjfnbnofjademaaGreatDoorJointRegPhase
import Derived.Deep.RegionHeld3
import Derived.BigRegion
import Derived.Deep.DeepCutAuto
set_option linter.unusedVariables false
set_option linter.unusedSimpArgs false
namespace Go.Proofs.YtjfnbnofjademaaGreatDoor
open Go.RowKit Go.WideShapes

def keptCells (K:KeptM) (vl:Value) : List Value := [.int .i64 K.view, .int .i64 K.normal, .bool K.calm,vl, .int .i64 K.commit]
def KeptAt (w:World) (v:Value) (K:KeptM) : Prop := ∃ vl,v = .agg #[.int .i64 K.view, .int .i64 K.normal, .bool K.calm,vl, .int .i64 K.commit] ∧ Strs w vl K.log
theorem KeptAt.below {w w' : World} {v:Value} {K:KeptM} (h:KeptAt w v K) (hb:Below w.heap.size w w') : KeptAt w' v K := by
 obtain⟨vl,hv,hl⟩:=h
 exact⟨vl,hv,hl.below hb⟩
def KeptNew (w:World) (B:Nat) (v:Value) (K:KeptM) : Prop := ∃ vl,v = .agg #[.int .i64 K.view, .int .i64 K.normal, .bool K.calm,vl, .int .i64 K.commit] ∧ w.ownsRow B 9 1 vl K.log.length (K.log.map enc)
theorem KeptNew.below {w w' : World} {B:Nat} {v:Value} {K:KeptM} (h:KeptNew w B v K) (hb:Below w.heap.size w w') : KeptNew w' B v K := by
 obtain⟨vl,hv,hl⟩:=h
 exact⟨vl,hv,own_below hl hb (own_lt hl)⟩
theorem KeptNew.base {w:World} {B B' : Nat} {v:Value} {K:KeptM} (h:KeptNew w B v K) (hb:B' ≤ B) : KeptNew w B' v K := by
 obtain⟨vl,hv,hl⟩:=h
 exact⟨vl,hv,own_base hl hb⟩
theorem KeptNew.other {w:World} {B:Nat} {v:Value} {K:KeptM} (h:KeptNew w B v K) {a:Addr} (ha:a.block<B) (x:Value) : KeptNew (w.setCell a x) B v K := by
 obtain⟨vl,hv,hl⟩:=h
 exact⟨vl,hv,ownsRow_setCell_below hl ha x⟩
theorem KeptNew.nil (w:World) (B:Nat) : KeptNew w B (.agg #[.int .i64 0, .int .i64 0, .bool false, .slice none 0 0, .int .i64 0]) zeroKept := ⟨_,rfl,World.ownsRow_nil _ _ _ _⟩
theorem KeptNew.at {w:World} {B:Nat} {v:Value} {K:KeptM} (h:KeptNew w B v K) (h1:K.log.length≤140737488355328) (h2 : ∀ s∈K.log,s.length≤140737488355328) : KeptAt w v K := by
 obtain⟨vl,hv,hl⟩:=h
 exact⟨vl,hv,Strs.of_own hl h1 h2⟩
theorem KeptAt.bounds {w:World} {v:Value} {K:KeptM} (h:KeptAt w v K) : K.log.length ≤ 140737488355328 ∧ ∀ s ∈ K.log,s.length ≤ 140737488355328 := by
 obtain⟨vl,hv,hl⟩:=h
 exact hl.bounds
theorem KeptNew.form {w:World} {B:Nat} {v:Value} {K:KeptM} (h:KeptNew w B v K) : ∃ a c,v = .agg #[.int .i64 K.view, .int .i64 K.normal, .bool K.calm, .slice a K.log.length c, .int .i64 K.commit] := by
 obtain⟨vl,hv,hl⟩:=h
 rcases hl.2 with ⟨rfl,h0⟩ | ⟨g,cap,cur,rfl,_⟩
 ·exact⟨none,0,by rw[hv,h0]⟩
 ·exact⟨_,_,hv⟩
theorem KeptNew.type {w:World} {B b:Nat} {v:Value} {K:KeptM} {t:TypeId} {cs:List Value} (h:KeptNew w B v K) (hb:Box w b t cs) (h1:9≠t) (i:Nat) (x:Value) : KeptNew (w.setCell ⟨b,i,none⟩ x) B v K := by
 obtain⟨vl,hv,hl⟩:=h
 exact⟨vl,hv,own_other hl (own_type hl hb h1) x⟩

end Go.Proofs.YtjfnbnofjademaaGreatDoor

namespace Go.Proofs.YtjfnbnofjademaaGreatDoor
open Go.RowKit Go.WideShapes

theorem flat_len {α : Type} (f : α → List Value) (s:Nat) (hf : ∀ x,(f x).length=s) : ∀ l : List α,(l.flatMap f).length = l.length * s
 | []=>by simp
 | x :: l=>by rw[List.flatMap_cons,List.length_append,flat_len f s hf l,hf,List.length_cons,Nat.succ_mul]; omega
theorem flat_get {α : Type} (f : α → List Value) (s:Nat) (hf : ∀ x,(f x).length=s) : ∀ (l:List α) (i j:Nat) (x : α),l[i]? = some x → j < s → (l.flatMap f)[i*s+j]? = (f x)[j]?
 | y :: l,0,j,x,hi,hj=>by
  have:y=x:=by simpa using hi
  subst this
  rw[List.flatMap_cons,List.getElem?_append_left (by rw[hf]; omega)]
  simp
 | y :: l,i+1,j,x,hi,hj=>by
  have e:(i+1)*s+j=s+(i*s+j):=by rw[Nat.succ_mul]; omega
  rw[List.flatMap_cons,List.getElem?_append_right (by rw[hf,e]; omega),hf,e,Nat.add_sub_cancel_left]
  exact flat_get f s hf l i j x (by simpa using hi) hj
def putAt (xs:List Value) (k:Nat) : List Value → List Value
 | []=>xs
 | c :: cs=>putAt (xs.set k c) (k+1) cs
theorem putAt_left (ys:List Value) : ∀ (cs xs:List Value) (k:Nat),putAt (ys++xs) (ys.length+k) cs = ys ++ putAt xs k cs
 | [],xs,k=>rfl
 | c :: cs,xs,k=>by
  unfold putAt
  rw[List.set_append_right _ _ (by omega),Nat.add_sub_cancel_left,Nat.add_assoc]
  exact putAt_left ys cs (xs.set k c) (k+1)
theorem putAt_all : ∀ (cs ys zs xs:List Value),cs.length = ys.length → putAt (zs++(ys++xs)) zs.length cs = zs ++ (cs++xs)
 | [],[],zs,xs,_=>rfl
 | c :: cs,y :: ys,zs,xs,h=>by
  unfold putAt
  have e:(zs++(y :: ys++xs)).set zs.length c=(zs ++ [c])++(ys++xs):=by simp
  have:=putAt_all cs ys (zs ++ [c]) xs (by simpa using h)
  rw[e]
  simp at this ⊢
  exact this
theorem flat_set {α : Type} (f : α → List Value) (s:Nat) (hf : ∀ x,(f x).length=s) : ∀ (l:List α) (i:Nat) (x : α),i < l.length → (l.set i x).flatMap f = putAt (l.flatMap f) (i*s) (f x)
 | y :: l,0,x,_=>by
  have:=putAt_all (f x) (f y) [] (l.flatMap f) (by rw[hf,hf])
  simp at this ⊢
  exact this.symm
 | y :: l,i+1,x,h=>by
  rw[List.set_cons_succ,List.flatMap_cons,List.flatMap_cons,flat_set f s hf l i x (by simpa using h),Nat.succ_mul,Nat.add_comm,← hf y,putAt_left,hf]

def encI (n:Int) : Value := .int .i64 n
def encB (b:Bool) : Value := .bool b
theorem encI_one (l:List Int) : ∀ u ∈ l.map encI,u.oneCell' = true := by
 intro u hu
 obtain⟨s,_,rfl⟩:=List.mem_map.1 hu
 rfl
theorem encB_one (l:List Bool) : ∀ u ∈ l.map encB,u.oneCell' = true := by
 intro u hu
 obtain⟨s,_,rfl⟩:=List.mem_map.1 hu
 rfl
def Ints (w:World) (v:Value) (l:List Int) : Prop :=
 ∃ a cap,v = .slice a l.length cap∧l.length≤140737488355328 ∧ ∀ i,i<l.length → ∃ b o,a=some ⟨b,o,none⟩∧w.cell? ⟨b,o+i,none⟩=some (.int .i64 (l.getD i 0))
def Bools (w:World) (v:Value) (l:List Bool) : Prop :=
 ∃ a cap,v = .slice a l.length cap∧l.length≤140737488355328 ∧ ∀ i,i<l.length → ∃ b o,a=some ⟨b,o,none⟩∧w.cell? ⟨b,o+i,none⟩=some (.bool (l.getD i false))
theorem Ints.below {w w' : World} {v:Value} {l:List Int} (h:Ints w v l) (hb:Below w.heap.size w w') : Ints w' v l := by
 obtain⟨a,cap,hv,hl,hc⟩:=h
 refine⟨a,cap,hv,hl,fun i hi => ?_⟩
 obtain⟨b,o,ha,hcell⟩:=hc i hi
 exact⟨b,o,ha,by rw[hb.cell (p:=⟨b,o+i,none⟩) (lt_of_cell hcell)]; exact hcell⟩
theorem Bools.below {w w' : World} {v:Value} {l:List Bool} (h:Bools w v l) (hb:Below w.heap.size w w') : Bools w' v l := by
 obtain⟨a,cap,hv,hl,hc⟩:=h
 refine⟨a,cap,hv,hl,fun i hi => ?_⟩
 obtain⟨b,o,ha,hcell⟩:=hc i hi
 exact⟨b,o,ha,by rw[hb.cell (p:=⟨b,o+i,none⟩) (lt_of_cell hcell)]; exact hcell⟩
theorem Ints.row {w:World} {v:Value} {l:List Int} (h:Ints w v l) : RowAt w v l.length 1 (l.map encI) := by
 obtain⟨a,cap,hv,hl,hc⟩:=h
 refine⟨a,cap,hv,by simp,fun j u hj => ?_⟩
 have hj' : j<l.length:=by have:=(List.getElem?_eq_some_iff.1 hj).1; simpa using this
 obtain⟨b,o,ha,hcell⟩:=hc j hj'
 refine⟨⟨b,o,none⟩,ha, ?_⟩
 rw[add_plain,hcell]
 simp[hj'] at hj
 rw[← hj]
 simp[encI,List.getD,hj']
theorem Bools.row {w:World} {v:Value} {l:List Bool} (h:Bools w v l) : RowAt w v l.length 1 (l.map encB) := by
 obtain⟨a,cap,hv,hl,hc⟩:=h
 refine⟨a,cap,hv,by simp,fun j u hj => ?_⟩
 have hj' : j<l.length:=by have:=(List.getElem?_eq_some_iff.1 hj).1; simpa using this
 obtain⟨b,o,ha,hcell⟩:=hc j hj'
 refine⟨⟨b,o,none⟩,ha, ?_⟩
 rw[add_plain,hcell]
 simp[hj'] at hj
 rw[← hj]
 simp[encB,List.getD,hj']
theorem Ints.of_own {w:World} {base:Nat} {e:TypeId} {v:Value} {l:List Int} (h:w.ownsRow base e 1 v l.length (l.map encI)) (h1:l.length≤140737488355328) : Ints w v l := by
 obtain⟨a,cap,hv⟩:=own_form h
 refine⟨a,cap,hv,h1,fun i hi => ?_⟩
 obtain⟨g,cap',hv',_,_,hc,_⟩:=own_cell h i hi
 rw[hv] at hv'
 cases hv'
 refine⟨g,0,rfl, ?_⟩
 rw[Nat.zero_add,hc]
 simp[hi,encI,List.getD]
theorem Bools.of_own {w:World} {base:Nat} {e:TypeId} {v:Value} {l:List Bool} (h:w.ownsRow base e 1 v l.length (l.map encB)) (h1:l.length≤140737488355328) : Bools w v l := by
 obtain⟨a,cap,hv⟩:=own_form h
 refine⟨a,cap,hv,h1,fun i hi => ?_⟩
 obtain⟨g,cap',hv',_,_,hc,_⟩:=own_cell h i hi
 rw[hv] at hv'
 cases hv'
 refine⟨g,0,rfl, ?_⟩
 rw[Nat.zero_add,hc]
 simp[hi,encB,List.getD]

def keptRow (p:KeptM×Value) : List Value := keptCells p.1 p.2
theorem keptRow_len (p:KeptM×Value) : (keptRow p).length = 5 := rfl
def KeptsAt (w:World) (v:Value) (l:List KeptM) : Prop :=
 ∃ a cap,v = .slice a l.length cap∧l.length*56≤140737488355328 ∧ ∀ i,i<l.length → ∃ b o vl,a=some ⟨b,o,none⟩∧(∀ j u,(keptCells (l.getD i zeroKept) vl)[j]? = some u→w.cell? ⟨b,o+i*5+j,none⟩=some u)∧Strs w vl (l.getD i zeroKept).log
theorem KeptsAt.below {w w' : World} {v:Value} {l:List KeptM} (h:KeptsAt w v l) (hb:Below w.heap.size w w') : KeptsAt w' v l := by
 obtain⟨a,cap,hv,hl,hc⟩:=h
 refine⟨a,cap,hv,hl,fun i hi => ?_⟩
 obtain⟨b,o,vl,ha,hcell,hs⟩:=hc i hi
 exact⟨b,o,vl,ha,fun j u hj=>by rw[hb.cell (p:=⟨b,o+i*5+j,none⟩) (lt_of_cell (hcell j u hj))]; exact hcell j u hj,hs.below hb⟩
def KeptsNew (w:World) (B:Nat) (v:Value) (ps:List (KeptM×Value)) : Prop :=
 w.ownsRow B 37 5 v ps.length (ps.flatMap keptRow) ∧ ∀ p∈ps,w.ownsRow B 9 1 p.2 p.1.log.length (p.1.log.map enc)
def TextsIn (l:List (List UInt8)) : Prop := l.length * 16 ≤ 140737488355328 ∧ ∀ s ∈ l,s.length ≤ 140737488355328
theorem KeptsAt.of_own {w:World} {B:Nat} {v:Value} {ps:List (KeptM×Value)} (h:KeptsNew w B v ps) (h1:ps.length*56≤140737488355328) (h2 : ∀ p∈ps,TextsIn p.1.log) : KeptsAt w v (ps.map Prod.fst) := by
 obtain⟨h,hs⟩:=h
 obtain⟨a,cap,hv⟩:=own_formN h
 refine⟨a,cap,by rw[List.length_map]; exact hv,by rw[List.length_map]; exact h1,fun i hi => ?_⟩
 rw[List.length_map] at hi
 have e1:(ps.map Prod.fst).getD i zeroKept=ps[i].1:=by simp[List.getD,hi]
 have key : ∀ j,j<5 → ∃ g,a=some ⟨g,0,none⟩∧w.cell? ⟨g,0+i*5+j,none⟩=(keptRow ps[i])[j]? := fun j hj=>by
  obtain⟨g,cap',hv',_,_,hc,_⟩:=own_cellN h (by decide) (i*5+j) (by omega)
  rw[hv] at hv'
  cases hv'
  exact⟨g,rfl,by rw[Nat.zero_add,hc,flat_get keptRow 5 keptRow_len ps i j ps[i] (List.getElem?_eq_getElem hi) hj]⟩
 obtain⟨g,ha,_⟩:=key 0 (by decide)
 have hp:ps[i]∈ps:=List.getElem_mem hi
 refine⟨g,0,ps[i].2,ha,fun j u hj => ?_, ?_⟩
 ·rw[e1] at hj
  have hj5:j<5:=by have:=(List.getElem?_eq_some_iff.1 hj).1; simpa [keptCells] using this
  obtain⟨g',ha',hc⟩:=key j hj5
  rw[ha] at ha'
  cases ha'
  rw[hc]
  exact hj
 ·rw[e1]
  have:=h2 _ hp
  exact Strs.of_own (hs _ hp) (by have:=this.1; omega) this.2

def replCells (R:ReplM) (vl vh vw vg vn:Value) : List Value := [.int .i64 R.me, .int .i64 R.kept.view, .int .i64 R.kept.normal, .bool R.kept.calm,vl, .int .i64 R.kept.commit,vh,vw,vg,vn]
def ReplAt (w:World) (v:Value) (R:ReplM) : Prop :=
 ∃ vl vh vw vg vn,v = .agg (replCells R vl vh vw vg vn).toArray∧Strs w vl R.kept.log∧Ints w vh R.hav∧Bools w vw R.wants∧KeptsAt w vg R.gives∧Bools w vn R.given
theorem ReplAt.below {w w' : World} {v:Value} {R:ReplM} (h:ReplAt w v R) (hb:Below w.heap.size w w') : ReplAt w' v R := by
 obtain⟨vl,vh,vw,vg,vn,hv,h1,h2,h3,h4,h5⟩:=h
 exact⟨vl,vh,vw,vg,vn,hv,h1.below hb,h2.below hb,h3.below hb,h4.below hb,h5.below hb⟩
structure ReplFits (R : ReplM) : Prop where
 log:TextsIn R.kept.log
 hav:R.hav.length*8≤140737488355328
 wants:R.wants.length≤140737488355328
 gives:R.gives.length*56≤140737488355328
 each : ∀ k∈R.gives,TextsIn k.log
 given:R.given.length≤140737488355328
def Asunder (u v:Value) : Prop := ∀ k,u.ownBlock = some k → v.ownBlock ≠ some k
theorem Asunder.symm {u v:Value} (h:Asunder u v) : Asunder v u := fun k h1 h2 => h k h2 h1
def ReplOwn (w:World) (B:Nat) (R:ReplM) (vl vh vw vg vn:Value) (ps:List (KeptM×Value)) : Prop :=
 R.gives=ps.map Prod.fst∧w.ownsRow B 9 1 vl R.kept.log.length (R.kept.log.map enc)∧w.ownsRow B 3 1 vh R.hav.length (R.hav.map encI)∧w.ownsRow B 4 1 vw R.wants.length (R.wants.map encB) ∧
 KeptsNew w B vg ps∧w.ownsRow B 4 1 vn R.given.length (R.given.map encB)∧Asunder vw vn ∧ ∀ p∈ps,Asunder vl p.2
def ReplNew (w:World) (B:Nat) (v:Value) (R:ReplM) : Prop := ∃ vl vh vw vg vn ps,v = .agg (replCells R vl vh vw vg vn).toArray ∧ ReplOwn w B R vl vh vw vg vn ps
theorem KeptsNew.map {w w' : World} {B B' : Nat} {v:Value} {ps:List (KeptM×Value)} (h:KeptsNew w B v ps)
  (f : ∀ (e:TypeId) (s:Nat) (x:Value) (m:Nat) (xs:List Value),(e=9∨e=3∨e=4∨e=37)→w.ownsRow B e s x m xs→w'.ownsRow B' e s x m xs):KeptsNew w' B' v ps :=
 ⟨f _ _ _ _ _ (by simp) h.1,fun p hp=>f _ _ _ _ _ (by simp) (h.2 p hp)⟩
theorem ReplOwn.map {w w' : World} {B B' : Nat} {R:ReplM} {vl vh vw vg vn:Value} {ps:List (KeptM×Value)} (h:ReplOwn w B R vl vh vw vg vn ps)
  (f : ∀ (e:TypeId) (s:Nat) (x:Value) (m:Nat) (xs:List Value),(e=9∨e=3∨e=4∨e=37)→w.ownsRow B e s x m xs→w'.ownsRow B' e s x m xs):ReplOwn w' B' R vl vh vw vg vn ps :=
 ⟨h.1,f _ _ _ _ _ (by simp) h.2.1,f _ _ _ _ _ (by simp) h.2.2.1,f _ _ _ _ _ (by simp) h.2.2.2.1,h.2.2.2.2.1.map f,f _ _ _ _ _ (by simp) h.2.2.2.2.2.1,h.2.2.2.2.2.2⟩
theorem ReplOwn.other {w:World} {B:Nat} {R:ReplM} {vl vh vw vg vn:Value} {ps:List (KeptM×Value)} (h:ReplOwn w B R vl vh vw vg vn ps) {a:Addr} (ha:a.block<B) (x:Value) : ReplOwn (w.setCell a x) B R vl vh vw vg vn ps :=
 h.map fun _ _ _ _ _ _ r=>ownsRow_setCell_below r ha x
theorem ReplOwn.base {w:World} {B B' : Nat} {R:ReplM} {vl vh vw vg vn:Value} {ps:List (KeptM×Value)} (h:ReplOwn w B R vl vh vw vg vn ps) (hb:B' ≤ B) : ReplOwn w B' R vl vh vw vg vn ps :=
 h.map fun _ _ _ _ _ _ r=>own_base r hb
theorem ReplOwn.below {w w' : World} {B:Nat} {R:ReplM} {vl vh vw vg vn:Value} {ps:List (KeptM×Value)} (h:ReplOwn w B R vl vh vw vg vn ps) (hb:Below w.heap.size w w') : ReplOwn w' B R vl vh vw vg vn ps :=
 h.map fun _ _ _ _ _ _ r=>own_below r hb (own_lt r)
theorem ReplOwn.type {w:World} {B b:Nat} {R:ReplM} {vl vh vw vg vn:Value} {ps:List (KeptM×Value)} {t:TypeId} {cs:List Value} (h:ReplOwn w B R vl vh vw vg vn ps) (hb:Box w b t cs)
  (h1:9≠t) (h2:3≠t) (h3:4≠t) (h4:37≠t) (i:Nat) (x:Value):ReplOwn (w.setCell ⟨b,i,none⟩ x) B R vl vh vw vg vn ps :=
 h.map fun e _ _ _ _ he r=>own_other r (own_type r hb (by rcases he with rfl | rfl | rfl | rfl <;> assumption)) x
theorem ReplOwn.at {w:World} {B:Nat} {R:ReplM} {vl vh vw vg vn:Value} {ps:List (KeptM×Value)} (h:ReplOwn w B R vl vh vw vg vn ps) (hf:ReplFits R) : ReplAt w (.agg (replCells R vl vh vw vg vn).toArray) R := by
 obtain⟨hg,h1,h2,h3,h4,h5,_⟩:=h
 refine⟨vl,vh,vw,vg,vn,rfl,Strs.of_own h1 (by have:=hf.log.1; omega) hf.log.2,Ints.of_own h2 (by have:=hf.hav; omega),Bools.of_own h3 hf.wants, ?_,Bools.of_own h5 hf.given⟩
 rw[hg]
 have h6:=hf.gives
 have h7:=hf.each
 rw[hg] at h6 h7
 exact KeptsAt.of_own h4 (by simpa using h6) (fun p hp=>h7 _ (List.mem_map.2 ⟨p,hp,rfl⟩))
theorem ReplNew.below {w w' : World} {B:Nat} {v:Value} {R:ReplM} (h:ReplNew w B v R) (hb:Below w.heap.size w w') : ReplNew w' B v R := by
 obtain⟨vl,vh,vw,vg,vn,ps,hv,h⟩:=h
 exact⟨vl,vh,vw,vg,vn,ps,hv,h.below hb⟩
theorem ReplNew.base {w:World} {B B' : Nat} {v:Value} {R:ReplM} (h:ReplNew w B v R) (hb:B' ≤ B) : ReplNew w B' v R := by
 obtain⟨vl,vh,vw,vg,vn,ps,hv,h⟩:=h
 exact⟨vl,vh,vw,vg,vn,ps,hv,h.base hb⟩
theorem ReplNew.other {w:World} {B:Nat} {v:Value} {R:ReplM} (h:ReplNew w B v R) {a:Addr} (ha:a.block<B) (x:Value) : ReplNew (w.setCell a x) B v R := by
 obtain⟨vl,vh,vw,vg,vn,ps,hv,h⟩:=h
 exact⟨vl,vh,vw,vg,vn,ps,hv,h.other ha x⟩
theorem ReplNew.at {w:World} {B:Nat} {v:Value} {R:ReplM} (h:ReplNew w B v R) (hf:ReplFits R) : ReplAt w v R := by
 obtain⟨vl,vh,vw,vg,vn,ps,rfl,h⟩:=h
 exact h.at hf

def msgCells (M:MsgM) (vl:Value) : List Value := [.int .i64 M.kind, .int .i64 M.frm, .int .i64 M.dst, .int .i64 M.view, .int .i64 M.normal, .int .i64 M.commit, .int .i64 M.n,vl]
def MsgAt (w:World) (v:Value) (M:MsgM) : Prop := ∃ vl,v = .agg (msgCells M vl).toArray ∧ Strs w vl M.log
theorem MsgAt.below {w w' : World} {v:Value} {M:MsgM} (h:MsgAt w v M) (hb:Below w.heap.size w w') : MsgAt w' v M := by
 obtain⟨vl,hv,hl⟩:=h
 exact⟨vl,hv,hl.below hb⟩
def msgRow (p:MsgM×Value) : List Value := msgCells p.1 p.2
theorem msgRow_len (p:MsgM×Value) : (msgRow p).length = 8 := rfl
def MsgsOwn (w:World) (B:Nat) (v:Value) (ps:List (MsgM×Value)) : Prop :=
 w.ownsRow B 138 8 v ps.length (ps.flatMap msgRow) ∧ ∀ p∈ps,w.ownsRow B 9 1 p.2 p.1.log.length (p.1.log.map enc)
theorem MsgsOwn.map {w w' : World} {B B' : Nat} {v:Value} {ps:List (MsgM×Value)} (h:MsgsOwn w B v ps)
  (f : ∀ (e:TypeId) (s:Nat) (x:Value) (m:Nat) (xs:List Value),(e=9∨e=138)→w.ownsRow B e s x m xs→w'.ownsRow B' e s x m xs):MsgsOwn w' B' v ps :=
 ⟨f _ _ _ _ _ (by simp) h.1,fun p hp=>f _ _ _ _ _ (by simp) (h.2 p hp)⟩
theorem MsgsOwn.other {w:World} {B:Nat} {v:Value} {ps:List (MsgM×Value)} (h:MsgsOwn w B v ps) {a:Addr} (ha:a.block<B) (x:Value) : MsgsOwn (w.setCell a x) B v ps :=
 h.map fun _ _ _ _ _ _ r=>ownsRow_setCell_below r ha x
theorem MsgsOwn.base {w:World} {B B' : Nat} {v:Value} {ps:List (MsgM×Value)} (h:MsgsOwn w B v ps) (hb:B' ≤ B) : MsgsOwn w B' v ps :=
 h.map fun _ _ _ _ _ _ r=>own_base r hb
theorem MsgsOwn.below {w w' : World} {B:Nat} {v:Value} {ps:List (MsgM×Value)} (h:MsgsOwn w B v ps) (hb:Below w.heap.size w w') : MsgsOwn w' B v ps :=
 h.map fun _ _ _ _ _ _ r=>own_below r hb (own_lt r)
theorem MsgsOwn.type {w:World} {B b:Nat} {v:Value} {ps:List (MsgM×Value)} {t:TypeId} {cs:List Value} (h:MsgsOwn w B v ps) (hb:Box w b t cs)
  (h1:9≠t) (h2:138≠t) (i:Nat) (x:Value):MsgsOwn (w.setCell ⟨b,i,none⟩ x) B v ps :=
 h.map fun e _ _ _ _ he r=>own_other r (own_type r hb (by rcases he with rfl | rfl <;> assumption)) x

end Go.Proofs.YtjfnbnofjademaaGreatDoor

namespace Go.Proofs.YtjfnbnofjademaaGreatDoor
open Go.RowKit

theorem mkInts (w:World) : (Instr.makeSlice 38 (.int .i64 3) (.int .i64 3)).run Tryz.prog w = .ok (.slice (some ⟨w.heap.size,0,none⟩) 3 3) (w.alloc (.cells #[.int .i64 0, .int .i64 0, .int .i64 0] 3)) := by kernel_rfl
theorem mkBools (w:World) : (Instr.makeSlice 39 (.int .i64 3) (.int .i64 3)).run Tryz.prog w = .ok (.slice (some ⟨w.heap.size,0,none⟩) 3 3) (w.alloc (.cells #[.bool false, .bool false, .bool false] 4)) := by kernel_rfl
theorem mkKepts (w:World) : (Instr.makeSlice 40 (.int .i64 3) (.int .i64 3)).run Tryz.prog w = .ok (.slice (some ⟨w.heap.size,0,none⟩) 3 3) (w.alloc (.cells #[.int .i64 0, .int .i64 0, .bool false, .slice none 0 0, .int .i64 0, .int .i64 0, .int .i64 0, .bool false, .slice none 0 0, .int .i64 0, .int .i64 0, .int .i64 0, .bool false, .slice none 0 0, .int .i64 0] 37)) := by kernel_rfl

def zI : List Value := [.int .i64 0, .int .i64 0, .int .i64 0]
def zB : List Value := [.bool false, .bool false, .bool false]
def zK : List Value := [.int .i64 0, .int .i64 0, .bool false, .slice none 0 0, .int .i64 0, .int .i64 0, .int .i64 0, .bool false, .slice none 0 0, .int .i64 0, .int .i64 0, .int .i64 0, .bool false, .slice none 0 0, .int .i64 0]
def row3 (b:Nat) : Value := .slice (some ⟨b,0,none⟩) 3 3
def RowB (B:Nat) (t:TypeId) (cs:List Value) (v:Value) (W:World) : Prop := ∃ b,v = row3 b ∧ B ≤ b ∧ Box W b t cs
def Four (B:Nat) (W:World) (bh bw bg bn:Nat) : Prop := bw ≠ bn ∧ B ≤ bh ∧ B ≤ bw ∧ B ≤ bg ∧ B ≤ bn ∧ Box W bh 3 zI ∧ Box W bw 4 zB ∧ Box W bg 37 zK ∧ Box W bn 4 zB
theorem Four.below {B:Nat} {W W' : World} {bh bw bg bn:Nat} (h:Four B W bh bw bg bn) (hb:Below W.heap.size W W') : Four B W' bh bw bg bn :=
 ⟨h.1,h.2.1,h.2.2.1,h.2.2.2.1,h.2.2.2.2.1,h.2.2.2.2.2.1.below hb h.2.2.2.2.2.1.lt,h.2.2.2.2.2.2.1.below hb h.2.2.2.2.2.2.1.lt,h.2.2.2.2.2.2.2.1.below hb h.2.2.2.2.2.2.2.1.lt,h.2.2.2.2.2.2.2.2.below hb h.2.2.2.2.2.2.2.2.lt⟩
theorem Four.other {B:Nat} {W:World} {bh bw bg bn:Nat} (h:Four B W bh bw bg bn) {a:Addr} (ha:a.block<B) (v:Value) : Four B (W.setCell a v) bh bw bg bn := by
 obtain⟨h0,h1,h2,h3,h4,h5,h6,h7,h8⟩:=h
 exact⟨h0,h1,h2,h3,h4,h5.other v (by omega),h6.other v (by omega),h7.other v (by omega),h8.other v (by omega)⟩
theorem RowB.below {B:Nat} {t:TypeId} {cs:List Value} {v:Value} {W W' : World} (h:RowB B t cs v W) (hb:Below W.heap.size W W') : RowB B t cs v W' := by
 obtain⟨b,h1,h2,h3⟩:=h
 exact⟨b,h1,h2,h3.below hb h3.lt⟩
theorem RowB.other {B:Nat} {t:TypeId} {cs:List Value} {v:Value} {W:World} (h:RowB B t cs v W) {a:Addr} (ha:a.block<B) (u:Value) : RowB B t cs v (W.setCell a u) := by
 obtain⟨b,h1,h2,h3⟩:=h
 exact⟨b,h1,h2,h3.other u (by omega)⟩
def knowPr (kv:Value) (me:Int) (cs4:List Value) (B br:Nat) : Nat → Value → World → Prop
 | 0,v,_=>v = .int .i64 me
 | 1,v,_=>v=kv
 | 2,v,W=>RowB B 3 zI v W
 | 3,v,W=>RowB B 4 zB v W
 | 4,v,W=>RowB B 37 zK v W
 | 5,v,W=>RowB B 4 zB v W
 | 6,v,W => ∃ bh bw bg bn,Four B W bh bw bg bn∧v = .agg (cs4 ++ [row3 bh,row3 bw,row3 bg,row3 bn]).toArray
 | 7,_,W => ∃ bh bw bg bn,Four B W bh bw bg bn∧Box W br 42 (cs4 ++ [row3 bh,row3 bw,row3 bg,row3 bn])
 | _,_,_=>True
theorem knowPr_below {kv:Value} {me:Int} {cs4:List Value} {B br:Nat} {W W' : World} (hb:Below W.heap.size W W') : ∀ (j:Nat) (u:Value),knowPr kv me cs4 B br j u W → knowPr kv me cs4 B br j u W'
 | 0,_,h=>h
 | 1,_,h=>h
 | 2,_,h=>RowB.below h hb
 | 3,_,h=>RowB.below h hb
 | 4,_,h=>RowB.below h hb
 | 5,_,h=>RowB.below h hb
 | 6,_,h=>by obtain⟨bh,bw,bg,bn,hf,hv⟩:=h; exact⟨bh,bw,bg,bn,hf.below hb,hv⟩
 | 7,_,h=>by obtain⟨bh,bw,bg,bn,hf,hv⟩:=h; exact⟨bh,bw,bg,bn,hf.below hb,hv.below hb hv.lt⟩
 | _+8,_,_=>trivial
theorem knowPr_set {kv:Value} {me:Int} {cs4:List Value} {B br:Nat} {W:World} {a:Addr} (ha:a.block<B) {i:Nat} (hi:i=7) (x:Value) : ∀ (j:Nat) (u:Value),j ≠ i → knowPr kv me cs4 B br j u W → knowPr kv me cs4 B br j u (W.setCell a x)
 | 0,_,_,h=>h
 | 1,_,_,h=>h
 | 2,_,_,h=>RowB.other h ha x
 | 3,_,_,h=>RowB.other h ha x
 | 4,_,_,h=>RowB.other h ha x
 | 5,_,_,h=>RowB.other h ha x
 | 6,_,_,h=>by obtain⟨bh,bw,bg,bn,hf,hv⟩:=h; exact⟨bh,bw,bg,bn,hf.other ha x,hv⟩
 | 7,_,hj,_=>absurd hi.symm hj
 | _+8,_,_,_=>trivial
theorem Four.base {B B' : Nat} {W:World} {bh bw bg bn:Nat} (h:Four B W bh bw bg bn) (hb:B' ≤ B) : Four B' W bh bw bg bn := by
 obtain⟨h0,h1,h2,h3,h4,h5⟩:=h
 exact⟨h0,by omega,by omega,by omega,by omega,h5⟩
theorem knowPr_lt {kv:Value} {me:Int} {cs4:List Value} {B br:Nat} {W:World} (hk:kv.ownBlock=none) : ∀ (j:Nat) (u:Value),j < 6 → knowPr kv me cs4 B br j u W → ∀ k,u.ownBlock = some k → k < W.heap.size
 | 0,_,_,h,k,hk' => by cases h; cases hk'
 | 1,_,_,h,k,hk' => by cases h; rw[hk] at hk'; cases hk'
 | 2,_,_,h,k,hk' => by obtain⟨b,rfl,_,hB⟩:=h; cases hk'; exact hB.lt
 | 3,_,_,h,k,hk' => by obtain⟨b,rfl,_,hB⟩:=h; cases hk'; exact hB.lt
 | 4,_,_,h,k,hk' => by obtain⟨b,rfl,_,hB⟩:=h; cases hk'; exact hB.lt
 | 5,_,_,h,k,hk' => by obtain⟨b,rfl,_,hB⟩:=h; cases hk'; exact hB.lt

set_option maxRecDepth 4000 in
set_option maxHeartbeats 4000000 in
theorem knowing_any (me:Int) (K:KeptM) (av:Option Addr) (n cv:Nat) (w:World) :
  Calls Tryz.prog 83 #[.int .i64 me, .agg #[.int .i64 K.view, .int .i64 K.normal, .bool K.calm, .slice av n cv, .int .i64 K.commit]] w fun e w' => ∃ bh bw bg bn,e = .returned (.agg #[.int .i64 me, .int .i64 K.view, .int .i64 K.normal, .bool K.calm, .slice av n cv, .int .i64 K.commit,row3 bh,row3 bw,row3 bg,row3 bn])∧Four w.heap.size w' bh bw bg bn∧Below w.heap.size w w' := by
 obtain⟨vi,nm,cm,l,ct⟩:=K
 simp only
 obtain⟨b0,b1,hb⟩:=boxes2 w 37 42 [.int .i64 vi, .int .i64 nm, .bool cm, .slice av n cv, .int .i64 ct] [.int .i64 0, .int .i64 0, .int .i64 0, .bool false, .slice none 0 0, .int .i64 0, .slice none 0 0, .slice none 0 0, .slice none 0 0, .slice none 0 0]
 obtain⟨w0,hw0⟩ : ∃ w0,w0=(w.alloc (.cells #[.int .i64 vi, .int .i64 nm, .bool cm, .slice av n cv, .int .i64 ct] 37)).alloc (.cells #[.int .i64 0, .int .i64 0, .int .i64 0, .bool false, .slice none 0 0, .int .i64 0, .slice none 0 0, .slice none 0 0, .slice none 0 0, .slice none 0 0] 42):=⟨_,rfl⟩
 have hsz:w0.heap.size=w.heap.size+1+1:=by rw[hw0]; simp
 go_enter Tryz.func83,Tryz.ntmps83
 go_upto_region 1 with fail
 rw[← hw0] at b0 b1 hb ⊢
 clear hw0
 refine wp_region_rows (by kernel_rfl) (by kernel_rfl) (by kernel_rfl) (by kernel_rfl) (by kernel_rfl)
  (fun W=>Below w.heap.size w W∧w.heap.size+2≤W.heap.size∧Box W w.heap.size 37 [.int .i64 vi, .int .i64 nm, .bool cm, .slice av n cv, .int .i64 ct] ∧ ∃ c0 c1 c2 c3 c4 c5 c6 c7 c8 c9,Box W (w.heap.size+1) 42 [c0,c1,c2,c3,c4,c5,c6,c7,c8,c9])
  (knowPr (.agg #[.int .i64 vi, .int .i64 nm, .bool cm, .slice av n cv, .int .i64 ct]) me [.int .i64 me, .int .i64 vi, .int .i64 nm, .bool cm, .slice av n cv, .int .i64 ct] (w.heap.size+2) (w.heap.size+1))
  (fun i j u v=>i<6→j<6→Asunder u v) ⟨hb.drew,by show _≤w0.heap.size; omega,b0,_,_,_,_,_,_,_,_,_,_,b1⟩ ?_ ?_
 ·intro i hi a W vs hG hout hdep hdA
  obtain⟨hB,hS,hb0,c0,c1,c2,c3,c4,c5,c6,c7,c8,c9,hb1⟩:=hG
  match i,hi with
  | 0,_ =>
   have e0:a.tmps.getD 0 undef = .int .i64 me:=hout 0 (by kernel_rfl)
   refine op_value (v := .int .i64 me) (w' := W) ?_ ⟨_,rfl,⟨hB,hS,hb0,_,_,_,_,_,_,_,_,_,_,hb1⟩,rfl,fun j u _ h=>⟨h,fun _ _ k h1 h2=>by cases h2⟩⟩
   show (execOp a.eval { dst:=_,op := .move (.tmp 0),type:=_,pos:=_,after:=_,guard:=_ }).run Tryz.prog W=_
   simp[execOp,Act.eval,e0,go_sem]
  | 1,_ =>
   have e0:a.tmps.getD 3 undef = .pointer (some ⟨w.heap.size,0,none⟩):=hout 3 (by kernel_rfl)
   obtain⟨x0,x1,x2,x3,x4⟩:=hb0.c5
   refine op_value (v := .agg #[.int .i64 vi, .int .i64 nm, .bool cm, .slice av n cv, .int .i64 ct]) (w' := W) ?_ ⟨_,rfl,⟨hB,hS,hb0,_,_,_,_,_,_,_,_,_,_,hb1⟩,rfl,fun j u _ h=>⟨h,fun _ _ k h1 h2=>by cases h2⟩⟩
   show (execOp a.eval { dst:=_,op := .load 37 (.tmp 3),type:=_,pos:=_,after:=_,guard:=_ }).run Tryz.prog W=_
   clear hout hdep hdA
   simp[execOp,Act.eval,e0,go_sem,x0,x1,x2,x3,x4]
  | 2,_ =>
   refine op_value (v:=row3 W.heap.size) (w' := W.alloc (.cells zI.toArray 3)) ?_ ⟨_,rfl,⟨hB.alloc hB.size _,by simp; omega,hb0.alloc _,_,_,_,_,_,_,_,_,_,_,hb1.alloc _⟩,⟨_,rfl,hS,Box.new W _ _⟩,fun j u _ h=>⟨knowPr_below (below_alloc W _) j u h,fun hj _ k h1 h2 => ?_⟩⟩
   ·show (execOp a.eval { dst:=_,op := .makeSlice _ (.const (.int .i64 3)) (.const (.int .i64 3)),type:=_,pos:=_,after:=_,guard:=_ }).run Tryz.prog W=_
    simp only[execOp,Act.eval,Sem.run_bind]
    rw[mkInts W]
    rfl
   ·have:=knowPr_lt rfl j u hj h k h1
    have h3:some W.heap.size=some k:=h2
    injection h3 with h3
    omega
  | 3,_ =>
   refine op_value (v:=row3 W.heap.size) (w' := W.alloc (.cells zB.toArray 4)) ?_ ⟨_,rfl,⟨hB.alloc hB.size _,by simp; omega,hb0.alloc _,_,_,_,_,_,_,_,_,_,_,hb1.alloc _⟩,⟨_,rfl,hS,Box.new W _ _⟩,fun j u _ h=>⟨knowPr_below (below_alloc W _) j u h,fun hj _ k h1 h2 => ?_⟩⟩
   ·show (execOp a.eval { dst:=_,op := .makeSlice _ (.const (.int .i64 3)) (.const (.int .i64 3)),type:=_,pos:=_,after:=_,guard:=_ }).run Tryz.prog W=_
    simp only[execOp,Act.eval,Sem.run_bind]
    rw[mkBools W]
    rfl
   ·have:=knowPr_lt rfl j u hj h k h1
    have h3:some W.heap.size=some k:=h2
    injection h3 with h3
    omega
  | 4,_ =>
   refine op_value (v:=row3 W.heap.size) (w' := W.alloc (.cells zK.toArray 37)) ?_ ⟨_,rfl,⟨hB.alloc hB.size _,by simp; omega,hb0.alloc _,_,_,_,_,_,_,_,_,_,_,hb1.alloc _⟩,⟨_,rfl,hS,Box.new W _ _⟩,fun j u _ h=>⟨knowPr_below (below_alloc W _) j u h,fun hj _ k h1 h2 => ?_⟩⟩
   ·show (execOp a.eval { dst:=_,op := .makeSlice _ (.const (.int .i64 3)) (.const (.int .i64 3)),type:=_,pos:=_,after:=_,guard:=_ }).run Tryz.prog W=_
    simp only[execOp,Act.eval,Sem.run_bind]
    rw[mkKepts W]
    rfl
   ·have:=knowPr_lt rfl j u hj h k h1
    have h3:some W.heap.size=some k:=h2
    injection h3 with h3
    omega
  | 5,_ =>
   refine op_value (v:=row3 W.heap.size) (w' := W.alloc (.cells zB.toArray 4)) ?_ ⟨_,rfl,⟨hB.alloc hB.size _,by simp; omega,hb0.alloc _,_,_,_,_,_,_,_,_,_,_,hb1.alloc _⟩,⟨_,rfl,hS,Box.new W _ _⟩,fun j u _ h=>⟨knowPr_below (below_alloc W _) j u h,fun hj _ k h1 h2 => ?_⟩⟩
   ·show (execOp a.eval { dst:=_,op := .makeSlice _ (.const (.int .i64 3)) (.const (.int .i64 3)),type:=_,pos:=_,after:=_,guard:=_ }).run Tryz.prog W=_
    simp only[execOp,Act.eval,Sem.run_bind]
    rw[mkBools W]
    rfl
   ·have:=knowPr_lt rfl j u hj h k h1
    have h3:some W.heap.size=some k:=h2
    injection h3 with h3
    omega
  | 6,_ =>
   obtain⟨p0,e0⟩:=hdep 0 (by kernel_rfl)
   obtain⟨p1,e1⟩:=hdep 1 (by kernel_rfl)
   obtain⟨⟨bh,p2,q2,r2⟩,e2⟩:=hdep 2 (by kernel_rfl)
   obtain⟨⟨bw,p3,q3,r3⟩,e3⟩:=hdep 3 (by kernel_rfl)
   obtain⟨⟨bg,p4,q4,r4⟩,e4⟩:=hdep 4 (by kernel_rfl)
   obtain⟨⟨bn,p5,q5,r5⟩,e5⟩:=hdep 5 (by kernel_rfl)
   have p0:vs 0 = .int .i64 me:=p0
   have p1:vs 1 = .agg #[.int .i64 vi, .int .i64 nm, .bool cm, .slice av n cv, .int .i64 ct]:=p1
   have f0:=e0 5 (by kernel_rfl)
   have f1:=e1 6 (by kernel_rfl)
   have f2:=e2 7 (by kernel_rfl)
   have f3:=e3 8 (by kernel_rfl)
   have f4:=e4 9 (by kernel_rfl)
   have f5:=e5 10 (by kernel_rfl)
   have hne:bw≠bn:=fun e=>by
    subst e
    rcases hdA 3 5 (by decide) (by kernel_rfl) (by kernel_rfl) with h | h
    ·exact h (by decide) (by decide) bw (by rw[p3]; rfl) (by rw[p5]; rfl)
    ·exact h (by decide) (by decide) bw (by rw[p5]; rfl) (by rw[p3]; rfl)
   rw[p0] at f0
   rw[p1] at f1
   rw[p2] at f2
   rw[p3] at f3
   rw[p4] at f4
   rw[p5] at f5
   refine op_value (v := .agg #[.int .i64 me, .int .i64 vi, .int .i64 nm, .bool cm, .slice av n cv, .int .i64 ct,row3 bh,row3 bw,row3 bg,row3 bn]) (w' := W) ?_ ⟨_,rfl,⟨hB,hS,hb0,_,_,_,_,_,_,_,_,_,_,hb1⟩,⟨bh,bw,bg,bn,⟨hne,q2,q3,q4,q5,r2,r3,r4,r5⟩,rfl⟩,fun j u _ h=>⟨h,fun _ h6=>absurd h6 (by decide)⟩⟩
   show (execOp a.eval { dst:=_,op := .build 42 #[(0, .tmp 5),(1, .tmp 6),(2, .tmp 7),(3, .tmp 8),(4, .tmp 9),(5, .tmp 10)],type:=_,pos:=_,after:=_,guard:=_ }).run Tryz.prog W=_
   clear hout hdep hdA
   simp only[Array.getD_eq_getD_getElem?] at f0 f1 f2 f3 f4 f5
   simp[execOp,Act.eval,f0,f1,f2,f3,f4,f5,go_sem,row3]
  | 7,_ =>
   obtain⟨⟨bh,bw,bg,bn,hF,p6⟩,e6⟩:=hdep 6 (by kernel_rfl)
   have g6:=e6 11 (by kernel_rfl)
   rw[p6] at g6
   have e0:a.tmps.getD 4 undef = .pointer (some ⟨w.heap.size+1,0,none⟩):=hout 4 (by kernel_rfl)
   obtain⟨y0,y1,y2,y3,y4,y5,y6,y7,y8,y9⟩:=hb1.c10
   obtain⟨f0,f1,f2,f3,f4,f5,f6,f7,f8,f9⟩:=hb1.z10
   refine op_skip (w' := (((((((((W.setCell ⟨w.heap.size+1,0,none⟩ (.int .i64 me)).setCell ⟨w.heap.size+1,1,none⟩ (.int .i64 vi)).setCell ⟨w.heap.size+1,2,none⟩ (.int .i64 nm)).setCell ⟨w.heap.size+1,3,none⟩ (.bool cm)).setCell ⟨w.heap.size+1,4,none⟩ (.slice av n cv)).setCell ⟨w.heap.size+1,5,none⟩ (.int .i64 ct)).setCell ⟨w.heap.size+1,6,none⟩ (row3 bh)).setCell ⟨w.heap.size+1,7,none⟩ (row3 bw)).setCell ⟨w.heap.size+1,8,none⟩ (row3 bg)).setCell ⟨w.heap.size+1,9,none⟩ (row3 bn)) ?_ ?_
   ·show (execOp a.eval { dst:=_,op := .store 42 (.tmp 4) (.tmp 11),type:=_,pos:=_,after:=_,guard:=_ }).run Tryz.prog W=_
    clear hout hdep hdA
    simp only[Array.getD_eq_getD_getElem?] at e0 g6
    simp[execOp,Act.eval,e0,g6,go_sem,row3, *]
   ·have R:=((((((((((hb1.set 0 (.int .i64 me)).set 1 (.int .i64 vi)).set 2 (.int .i64 nm)).set 3 (.bool cm)).set 4 (.slice av n cv)).set 5 (.int .i64 ct)).set 6 (row3 bh)).set 7 (row3 bw)).set 8 (row3 bg)).set 9 (row3 bn))
    refine⟨_,rfl,⟨?_, ?_, ?_,_,_,_,_,_,_,_,_,_,_,R⟩,⟨bh,bw,bg,bn, ?_,R⟩,fun j u hj h=>⟨?_,fun _ h6=>absurd h6 (by decide)⟩⟩
    ·exact (((((((((hB.setCell (by simp) _).setCell (by simp) _).setCell (by simp) _).setCell (by simp) _).setCell (by simp) _).setCell (by simp) _).setCell (by simp) _).setCell (by simp) _).setCell (by simp) _).setCell (by simp) _
    ·simpa using hS
    ·exact (((((((((hb0.other _ (by simp)).other _ (by simp)).other _ (by simp)).other _ (by simp)).other _ (by simp)).other _ (by simp)).other _ (by simp)).other _ (by simp)).other _ (by simp)).other _ (by simp)
    ·exact (((((((((hF.other (by simp) _).other (by simp) _).other (by simp) _).other (by simp) _).other (by simp) _).other (by simp) _).other (by simp) _).other (by simp) _).other (by simp) _).other (by simp) _
    ·refine knowPr_set (by simp) (by decide) _ j u hj (knowPr_set (by simp) (by decide) _ j u hj (knowPr_set (by simp) (by decide) _ j u hj (knowPr_set (by simp) (by decide) _ j u hj (knowPr_set (by simp) (by decide) _ j u hj (knowPr_set (by simp) (by decide) _ j u hj (knowPr_set (by simp) (by decide) _ j u hj (knowPr_set (by simp) (by decide) _ j u hj (knowPr_set (by simp) (by decide) _ j u hj (knowPr_set (by simp) (by decide) _ j u hj h)))))))))
 ·intro vs W hG hP hA
  obtain⟨hB,hS,hb0,_⟩:=hG
  obtain⟨bh,bw,bg,bn,hF,hR⟩:=hP 7 (by decide)
  obtain⟨y0,y1,y2,y3,y4,y5,y6,y7,y8,y9⟩:=hR.c10
  have HF:Hid (Four w.heap.size W bh bw bg bn):=hF.base (by omega)
  have HB:Hid (Below w.heap.size w W):=hB
  clear hP hA hF hR hB hS hb0 hb b0 b1 hsz
  simp only[fillGo,Act.put]
  go_wp2_with fail
  exact bodyPost_ret (v := .agg #[.int .i64 me, .int .i64 vi, .int .i64 nm, .bool cm, .slice av n cv, .int .i64 ct,row3 bh,row3 bw,row3 bg,row3 bn]) (by clear HB HF; simp[results,Tryz.results83,go_sem,row3, *]) rfl ⟨_,_,_,_,rfl,HF.out,HB.out⟩

end Go.Proofs.YtjfnbnofjademaaGreatDoor

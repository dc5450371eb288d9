import Derived.Test.YtjfnbnofjademaaGreatDoorJointStageMath
import Derived.OwnWalk
import Derived.Maps.AppendAt
import Derived.Deep.AppendLies
import Derived.Deep.RegionLaw
import Derived.BigRegion
set_option linter.unusedVariables false
set_option linter.unusedSimpArgs false
namespace Go.Proofs.YtjfnbnofjademaaGreatDoor
open Go.RowKit

def RowAt (w:World) (v:Value) (n size:Nat) (xs:List Value) : Prop :=
 ∃ a cap,v = .slice a n cap∧xs.length=n*size ∧ ∀ j u,xs[j]? = some u → ∃ ad,a=some ad∧w.cell? (ad.add j)=some u

theorem run_append_none {P:Program} (w:World) (base:Nat) (t ty e:TypeId) (i:TypeInfo) (size:Nat) (ht:P.underlying t=some (.slice e)) (hi:P.info? e=some i) (hsize:i.size=size)
  (v:Value) (n:Nat) (xs:List Value) (hown:w.ownsRow base e size v n xs) (c:Nat) :
  (Builtin.append_ #[t,t] ty #[v, .slice none 0 c]).run P w = .ok v w:=by
 subst hsize
 rcases hown.2 with ⟨rfl,rfl⟩ | ⟨g,cap,cur,rfl,hb,hg,hn,hm,hc,hx⟩
 ·simp[Builtin.append_,run_underlying ht,sizeOf,typeInfo,hi,Builtin.lenOf,Builtin.firstCells]
 ·simp[Builtin.append_,run_underlying ht,sizeOf,typeInfo,hi,Builtin.lenOf,Builtin.firstCells,hn,storeCells]

theorem run_append_row {P:Program} (w:World) (base:Nat) (t ty e:TypeId) (i:TypeInfo) (z:Value) (size bytes:Nat) (ht:P.underlying t=some (.slice e)) (hi:P.info? e=some i) (hz:i.zero=some z)
  (hsize:i.size=size) (hby:i.bytes=bytes) (hzs:z.cells.size=size) (hsz:0<size)
  (v:Value) (n:Nat) (xs:List Value) (hown:w.ownsRow base e size v n xs) (x:Value) (m:Nat) (news:List Value) (hx:RowAt w x m size news)
  (h1 : ∀ u∈news,u.oneCell' = true) (h63:n+m≤maxLen) (hbytes:(n+m)*bytes≤140737488355328) (hbase:base≤w.heap.size) :
  ∃ v' w',(Builtin.append_ #[t,t] ty #[v,x]).run P w = .ok v' w' ∧ w'.ownsRow base e size v' (n+m) (xs++news)∧w.grownBy w' v.ownBlock∧(v'.ownBlock=v.ownBlock∨v'.ownBlock=some w.heap.size):=by
 obtain⟨a,c,rfl,hl,hc⟩:=hx
 cases a with
 | some ad =>
  obtain⟨v',w',hr,h2,h3,_,h4⟩:=run_append_own_at (P:=P) w base t ty e i z size bytes ht hi hz hsize hby hzs hsz v n xs hown ad m c news hl (fun j u hj=>by
   obtain⟨ad',e1,e2⟩:=hc j u hj
   cases e1
   exact e2) h1 h63 hbytes hbase
  exact⟨v',w',hr,h2,h3,h4⟩
 | none =>
  have hm:news = []:=by
   cases news with
   | nil=>rfl
   | cons u r=>obtain⟨ad',e1,_⟩:=hc 0 u rfl; cases e1
  subst hm
  have hm0:m=0:=by
   rcases Nat.eq_zero_or_pos m with h | h
   ·exact h
   ·have:=Nat.mul_pos h hsz; simp at hl; omega
  subst hm0
  exact⟨v,w,run_append_none w base t ty e i size ht hi hsize v n xs hown c,by simpa using hown,⟨rfl,rfl,rfl,Nat.le_refl _,fun _ _ _=>rfl⟩,Or.inl rfl⟩

theorem wpList_append_row {P:Program} (w:World) {ops:Array Oper} {rest:List Oper} {o:Oper} {a:Act} {Q:Exit→Act→World→Prop} (hgd:o.guard=none) (s x:Operand) (t:TypeId)
  (ho:o.op = .call { callee := .builtin .append,args := #[s,x],argTypes := #[t,t] })
  (base:Nat) (e:TypeId) (i:TypeInfo) (z:Value) (size bytes:Nat) (ht:P.underlying t=some (.slice e)) (hi:P.info? e=some i) (hz:i.zero=some z)
  (hsize:i.size=size) (hby:i.bytes=bytes) (hzs:z.cells.size=size) (hsz:0<size)
  (v:Value) (n:Nat) (xs:List Value) (hs:a.eval s=v) (hown:w.ownsRow base e size v n xs)
  (y:Value) (m:Nat) (news:List Value) (hx:a.eval x=y) (hrow:RowAt w y m size news) (h1 : ∀ u∈news,u.oneCell' = true)
  (h63:n+m≤maxLen) (hbytes:(n+m)*bytes≤140737488355328) (hbase:base≤w.heap.size)
  (h : ∀ v' w',w'.ownsRow base e size v' (n+m) (xs++news)→w.grownBy w' v.ownBlock→(v'.ownBlock=v.ownBlock∨v'.ownBlock=some w.heap.size)→wpList P ops Q rest (a.put o.dst v') w'):wpList P ops Q (o :: rest) a w:=by
 refine wpList_plain hgd fun _ hK => ?_
 obtain⟨v',w',hr,h2,h3,h4⟩:=run_append_row (P:=P) w base t o.type e i z size bytes ht hi hz hsize hby hzs hsz v n xs hown y m news hrow h1 h63 hbytes hbase
 unfold Oper.wp execOp
 simp only[ho,resolve,invoke,builtin,Sem.run_bind,Sem.run_pure,Result.andThen_ok,List.map_toArray,List.map_cons,List.map_nil,hs,hx,hr]
 exact hK _ _ (h v' w' h2 h3 h4)

theorem wp_append_row {P:Program} (w:World) {o:Oper} {a:Act} {K:Act→World→Prop} {Q:Exit→Act→World→Prop} (s x:Operand) (t:TypeId)
  (ho:o.op = .call { callee := .builtin .append,args := #[s,x],argTypes := #[t,t] })
  (base:Nat) (e:TypeId) (i:TypeInfo) (z:Value) (size bytes:Nat) (ht:P.underlying t=some (.slice e)) (hi:P.info? e=some i) (hz:i.zero=some z)
  (hsize:i.size=size) (hby:i.bytes=bytes) (hzs:z.cells.size=size) (hsz:0<size)
  (v:Value) (n:Nat) (xs:List Value) (hs:a.eval s=v) (hown:w.ownsRow base e size v n xs)
  (y:Value) (m:Nat) (news:List Value) (hx:a.eval x=y) (hrow:RowAt w y m size news) (h1 : ∀ u∈news,u.oneCell' = true)
  (h63:n+m≤maxLen) (hbytes:(n+m)*bytes≤140737488355328) (hbase:base≤w.heap.size)
  (h : ∀ v' w',w'.ownsRow base e size v' (n+m) (xs++news)→w.grownBy w' v.ownBlock→(v'.ownBlock=v.ownBlock∨v'.ownBlock=some w.heap.size)→K (a.put o.dst v') w'):Oper.wp P o a w K Q:=by
 obtain⟨v',w',hr,h2,h3,h4⟩:=run_append_row (P:=P) w base t o.type e i z size bytes ht hi hz hsize hby hzs hsz v n xs hown y m news hrow h1 h63 hbytes hbase
 unfold Oper.wp execOp
 simp only[ho,resolve,invoke,builtin,Sem.run_bind,Sem.run_pure,Result.andThen_ok,List.map_toArray,List.map_cons,List.map_nil,hs,hx,hr]
 exact h v' w' h2 h3 h4

theorem step_append_row {P:Program} (w:World) {ops:Array Oper} {o:Oper} {a:Act} {K:Act→World→Prop} {Q:Exit→Act→World→Prop} {E:Prop} (hgd:o.guard=none) (s x:Operand) (t:TypeId)
  (ho:o.op = .call { callee := .builtin .append,args := #[s,x],argTypes := #[t,t] })
  (base:Nat) (e:TypeId) (i:TypeInfo) (z:Value) (size bytes:Nat) (ht:P.underlying t=some (.slice e)) (hi:P.info? e=some i) (hz:i.zero=some z)
  (hsize:i.size=size) (hby:i.bytes=bytes) (hzs:z.cells.size=size) (hsz:0<size)
  (v:Value) (n:Nat) (xs:List Value) (hs:a.eval s=v) (hown:w.ownsRow base e size v n xs)
  (y:Value) (m:Nat) (news:List Value) (hx:a.eval x=y) (hrow:RowAt w y m size news) (h1 : ∀ u∈news,u.oneCell' = true)
  (h63:n+m≤maxLen) (hbytes:(n+m)*bytes≤140737488355328) (hbase:base≤w.heap.size)
  (h : ∀ v' w',w'.ownsRow base e size v' (n+m) (xs++news)→w.grownBy w' v.ownBlock→(v'.ownBlock=v.ownBlock∨v'.ownBlock=some w.heap.size)→K (a.put o.dst v') w') :
  if Region.wanted o (yielded ops a.tmps)=true then Oper.wp P o a w K Q else E:=by
 have hw:Region.wanted o (yielded ops a.tmps)=true:=by simp[Region.wanted,hgd]
 rw[if_pos hw]
 exact wp_append_row w s x t ho base e i z size bytes ht hi hz hsize hby hzs hsz v n xs hs hown y m news hx hrow h1 h63 hbytes hbase h

def Box (w:World) (b:Nat) (t:TypeId) (cs:List Value) : Prop := w.heap[b]? = some (.cells cs.toArray t (0,0))

theorem Box.cell {w:World} {b:Nat} {t:TypeId} {cs:List Value} (h:Box w b t cs) (i:Nat) (v:Value) (hi:cs[i]? = some v) : w.cell? ⟨b,i,none⟩ = some v := by
 unfold Box at h
 simp[World.cell?,h,hi]
theorem Box.frozen {w:World} {b:Nat} {t:TypeId} {cs:List Value} (h:Box w b t cs) (i:Nat) : w.frozen? ⟨b,i,none⟩ = false := by
 unfold Box at h
 simp[World.frozen?,h]
theorem Box.c2 {w:World} {b:Nat} {t:TypeId} {x0 x1:Value} {r:List Value} (h:Box w b t (x0 :: x1 :: r)) : w.cell? ⟨b,0,none⟩ = some x0 ∧ w.cell? ⟨b,1,none⟩ = some x1 := ⟨h.cell 0 _ rfl,h.cell 1 _ rfl⟩
theorem Box.z2 {w:World} {b:Nat} {t:TypeId} {l:List Value} (h:Box w b t l) : w.frozen? ⟨b,0,none⟩ = false ∧ w.frozen? ⟨b,1,none⟩ = false := ⟨h.frozen 0,h.frozen 1⟩
theorem Box.c3 {w:World} {b:Nat} {t:TypeId} {x0 x1 x2:Value} {r:List Value} (h:Box w b t (x0 :: x1 :: x2 :: r)) : w.cell? ⟨b,0,none⟩ = some x0 ∧ w.cell? ⟨b,1,none⟩ = some x1 ∧ w.cell? ⟨b,2,none⟩ = some x2 := ⟨h.cell 0 _ rfl,h.cell 1 _ rfl,h.cell 2 _ rfl⟩
theorem Box.z3 {w:World} {b:Nat} {t:TypeId} {l:List Value} (h:Box w b t l) : w.frozen? ⟨b,0,none⟩ = false ∧ w.frozen? ⟨b,1,none⟩ = false ∧ w.frozen? ⟨b,2,none⟩ = false := ⟨h.frozen 0,h.frozen 1,h.frozen 2⟩
theorem Box.c4 {w:World} {b:Nat} {t:TypeId} {x0 x1 x2 x3:Value} {r:List Value} (h:Box w b t (x0 :: x1 :: x2 :: x3 :: r)) : w.cell? ⟨b,0,none⟩ = some x0 ∧ w.cell? ⟨b,1,none⟩ = some x1 ∧ w.cell? ⟨b,2,none⟩ = some x2 ∧ w.cell? ⟨b,3,none⟩ = some x3 := ⟨h.cell 0 _ rfl,h.cell 1 _ rfl,h.cell 2 _ rfl,h.cell 3 _ rfl⟩
theorem Box.z4 {w:World} {b:Nat} {t:TypeId} {l:List Value} (h:Box w b t l) : w.frozen? ⟨b,0,none⟩ = false ∧ w.frozen? ⟨b,1,none⟩ = false ∧ w.frozen? ⟨b,2,none⟩ = false ∧ w.frozen? ⟨b,3,none⟩ = false := ⟨h.frozen 0,h.frozen 1,h.frozen 2,h.frozen 3⟩
theorem Box.c5 {w:World} {b:Nat} {t:TypeId} {x0 x1 x2 x3 x4:Value} {r:List Value} (h:Box w b t (x0 :: x1 :: x2 :: x3 :: x4 :: r)) : w.cell? ⟨b,0,none⟩ = some x0 ∧ w.cell? ⟨b,1,none⟩ = some x1 ∧ w.cell? ⟨b,2,none⟩ = some x2 ∧ w.cell? ⟨b,3,none⟩ = some x3 ∧ w.cell? ⟨b,4,none⟩ = some x4 := ⟨h.cell 0 _ rfl,h.cell 1 _ rfl,h.cell 2 _ rfl,h.cell 3 _ rfl,h.cell 4 _ rfl⟩
theorem Box.z5 {w:World} {b:Nat} {t:TypeId} {l:List Value} (h:Box w b t l) : w.frozen? ⟨b,0,none⟩ = false ∧ w.frozen? ⟨b,1,none⟩ = false ∧ w.frozen? ⟨b,2,none⟩ = false ∧ w.frozen? ⟨b,3,none⟩ = false ∧ w.frozen? ⟨b,4,none⟩ = false := ⟨h.frozen 0,h.frozen 1,h.frozen 2,h.frozen 3,h.frozen 4⟩
theorem Box.c6 {w:World} {b:Nat} {t:TypeId} {x0 x1 x2 x3 x4 x5:Value} {r:List Value} (h:Box w b t (x0 :: x1 :: x2 :: x3 :: x4 :: x5 :: r)) : w.cell? ⟨b,0,none⟩ = some x0 ∧ w.cell? ⟨b,1,none⟩ = some x1 ∧ w.cell? ⟨b,2,none⟩ = some x2 ∧ w.cell? ⟨b,3,none⟩ = some x3 ∧ w.cell? ⟨b,4,none⟩ = some x4 ∧ w.cell? ⟨b,5,none⟩ = some x5 := ⟨h.cell 0 _ rfl,h.cell 1 _ rfl,h.cell 2 _ rfl,h.cell 3 _ rfl,h.cell 4 _ rfl,h.cell 5 _ rfl⟩
theorem Box.z6 {w:World} {b:Nat} {t:TypeId} {l:List Value} (h:Box w b t l) : w.frozen? ⟨b,0,none⟩ = false ∧ w.frozen? ⟨b,1,none⟩ = false ∧ w.frozen? ⟨b,2,none⟩ = false ∧ w.frozen? ⟨b,3,none⟩ = false ∧ w.frozen? ⟨b,4,none⟩ = false ∧ w.frozen? ⟨b,5,none⟩ = false := ⟨h.frozen 0,h.frozen 1,h.frozen 2,h.frozen 3,h.frozen 4,h.frozen 5⟩
theorem Box.c8 {w:World} {b:Nat} {t:TypeId} {x0 x1 x2 x3 x4 x5 x6 x7:Value} {r:List Value} (h:Box w b t (x0 :: x1 :: x2 :: x3 :: x4 :: x5 :: x6 :: x7 :: r)) : w.cell? ⟨b,0,none⟩ = some x0 ∧ w.cell? ⟨b,1,none⟩ = some x1 ∧ w.cell? ⟨b,2,none⟩ = some x2 ∧ w.cell? ⟨b,3,none⟩ = some x3 ∧ w.cell? ⟨b,4,none⟩ = some x4 ∧ w.cell? ⟨b,5,none⟩ = some x5 ∧ w.cell? ⟨b,6,none⟩ = some x6 ∧ w.cell? ⟨b,7,none⟩ = some x7 := ⟨h.cell 0 _ rfl,h.cell 1 _ rfl,h.cell 2 _ rfl,h.cell 3 _ rfl,h.cell 4 _ rfl,h.cell 5 _ rfl,h.cell 6 _ rfl,h.cell 7 _ rfl⟩
theorem Box.z8 {w:World} {b:Nat} {t:TypeId} {l:List Value} (h:Box w b t l) : w.frozen? ⟨b,0,none⟩ = false ∧ w.frozen? ⟨b,1,none⟩ = false ∧ w.frozen? ⟨b,2,none⟩ = false ∧ w.frozen? ⟨b,3,none⟩ = false ∧ w.frozen? ⟨b,4,none⟩ = false ∧ w.frozen? ⟨b,5,none⟩ = false ∧ w.frozen? ⟨b,6,none⟩ = false ∧ w.frozen? ⟨b,7,none⟩ = false := ⟨h.frozen 0,h.frozen 1,h.frozen 2,h.frozen 3,h.frozen 4,h.frozen 5,h.frozen 6,h.frozen 7⟩
theorem Box.c9 {w:World} {b:Nat} {t:TypeId} {x0 x1 x2 x3 x4 x5 x6 x7 x8:Value} {r:List Value} (h:Box w b t (x0 :: x1 :: x2 :: x3 :: x4 :: x5 :: x6 :: x7 :: x8 :: r)) : w.cell? ⟨b,0,none⟩ = some x0 ∧ w.cell? ⟨b,1,none⟩ = some x1 ∧ w.cell? ⟨b,2,none⟩ = some x2 ∧ w.cell? ⟨b,3,none⟩ = some x3 ∧ w.cell? ⟨b,4,none⟩ = some x4 ∧ w.cell? ⟨b,5,none⟩ = some x5 ∧ w.cell? ⟨b,6,none⟩ = some x6 ∧ w.cell? ⟨b,7,none⟩ = some x7 ∧ w.cell? ⟨b,8,none⟩ = some x8 := ⟨h.cell 0 _ rfl,h.cell 1 _ rfl,h.cell 2 _ rfl,h.cell 3 _ rfl,h.cell 4 _ rfl,h.cell 5 _ rfl,h.cell 6 _ rfl,h.cell 7 _ rfl,h.cell 8 _ rfl⟩
theorem Box.z9 {w:World} {b:Nat} {t:TypeId} {l:List Value} (h:Box w b t l) : w.frozen? ⟨b,0,none⟩ = false ∧ w.frozen? ⟨b,1,none⟩ = false ∧ w.frozen? ⟨b,2,none⟩ = false ∧ w.frozen? ⟨b,3,none⟩ = false ∧ w.frozen? ⟨b,4,none⟩ = false ∧ w.frozen? ⟨b,5,none⟩ = false ∧ w.frozen? ⟨b,6,none⟩ = false ∧ w.frozen? ⟨b,7,none⟩ = false ∧ w.frozen? ⟨b,8,none⟩ = false := ⟨h.frozen 0,h.frozen 1,h.frozen 2,h.frozen 3,h.frozen 4,h.frozen 5,h.frozen 6,h.frozen 7,h.frozen 8⟩
theorem Box.c10 {w:World} {b:Nat} {t:TypeId} {x0 x1 x2 x3 x4 x5 x6 x7 x8 x9:Value} {r:List Value} (h:Box w b t (x0 :: x1 :: x2 :: x3 :: x4 :: x5 :: x6 :: x7 :: x8 :: x9 :: r)) : w.cell? ⟨b,0,none⟩ = some x0 ∧ w.cell? ⟨b,1,none⟩ = some x1 ∧ w.cell? ⟨b,2,none⟩ = some x2 ∧ w.cell? ⟨b,3,none⟩ = some x3 ∧ w.cell? ⟨b,4,none⟩ = some x4 ∧ w.cell? ⟨b,5,none⟩ = some x5 ∧ w.cell? ⟨b,6,none⟩ = some x6 ∧ w.cell? ⟨b,7,none⟩ = some x7 ∧ w.cell? ⟨b,8,none⟩ = some x8 ∧ w.cell? ⟨b,9,none⟩ = some x9 := ⟨h.cell 0 _ rfl,h.cell 1 _ rfl,h.cell 2 _ rfl,h.cell 3 _ rfl,h.cell 4 _ rfl,h.cell 5 _ rfl,h.cell 6 _ rfl,h.cell 7 _ rfl,h.cell 8 _ rfl,h.cell 9 _ rfl⟩
theorem Box.z10 {w:World} {b:Nat} {t:TypeId} {l:List Value} (h:Box w b t l) : w.frozen? ⟨b,0,none⟩ = false ∧ w.frozen? ⟨b,1,none⟩ = false ∧ w.frozen? ⟨b,2,none⟩ = false ∧ w.frozen? ⟨b,3,none⟩ = false ∧ w.frozen? ⟨b,4,none⟩ = false ∧ w.frozen? ⟨b,5,none⟩ = false ∧ w.frozen? ⟨b,6,none⟩ = false ∧ w.frozen? ⟨b,7,none⟩ = false ∧ w.frozen? ⟨b,8,none⟩ = false ∧ w.frozen? ⟨b,9,none⟩ = false := ⟨h.frozen 0,h.frozen 1,h.frozen 2,h.frozen 3,h.frozen 4,h.frozen 5,h.frozen 6,h.frozen 7,h.frozen 8,h.frozen 9⟩
theorem Box.c11 {w:World} {b:Nat} {t:TypeId} {x0 x1 x2 x3 x4 x5 x6 x7 x8 x9 x10:Value} {r:List Value} (h:Box w b t (x0 :: x1 :: x2 :: x3 :: x4 :: x5 :: x6 :: x7 :: x8 :: x9 :: x10 :: r)) : w.cell? ⟨b,0,none⟩ = some x0 ∧ w.cell? ⟨b,1,none⟩ = some x1 ∧ w.cell? ⟨b,2,none⟩ = some x2 ∧ w.cell? ⟨b,3,none⟩ = some x3 ∧ w.cell? ⟨b,4,none⟩ = some x4 ∧ w.cell? ⟨b,5,none⟩ = some x5 ∧ w.cell? ⟨b,6,none⟩ = some x6 ∧ w.cell? ⟨b,7,none⟩ = some x7 ∧ w.cell? ⟨b,8,none⟩ = some x8 ∧ w.cell? ⟨b,9,none⟩ = some x9 ∧ w.cell? ⟨b,10,none⟩ = some x10 := ⟨h.cell 0 _ rfl,h.cell 1 _ rfl,h.cell 2 _ rfl,h.cell 3 _ rfl,h.cell 4 _ rfl,h.cell 5 _ rfl,h.cell 6 _ rfl,h.cell 7 _ rfl,h.cell 8 _ rfl,h.cell 9 _ rfl,h.cell 10 _ rfl⟩
theorem Box.z11 {w:World} {b:Nat} {t:TypeId} {l:List Value} (h:Box w b t l) : w.frozen? ⟨b,0,none⟩ = false ∧ w.frozen? ⟨b,1,none⟩ = false ∧ w.frozen? ⟨b,2,none⟩ = false ∧ w.frozen? ⟨b,3,none⟩ = false ∧ w.frozen? ⟨b,4,none⟩ = false ∧ w.frozen? ⟨b,5,none⟩ = false ∧ w.frozen? ⟨b,6,none⟩ = false ∧ w.frozen? ⟨b,7,none⟩ = false ∧ w.frozen? ⟨b,8,none⟩ = false ∧ w.frozen? ⟨b,9,none⟩ = false ∧ w.frozen? ⟨b,10,none⟩ = false := ⟨h.frozen 0,h.frozen 1,h.frozen 2,h.frozen 3,h.frozen 4,h.frozen 5,h.frozen 6,h.frozen 7,h.frozen 8,h.frozen 9,h.frozen 10⟩
theorem Box.lt {w:World} {b:Nat} {t:TypeId} {cs:List Value} (h:Box w b t cs) : b < w.heap.size := (Array.getElem?_eq_some_iff.1 h).1
theorem Box.below {w w' : World} {B b:Nat} {t:TypeId} {cs:List Value} (h:Box w b t cs) (hb:Below B w w') (hlt:b<B) : Box w' b t cs := by
 unfold Box at *
 rw[hb.block b hlt]; exact h
theorem Box.new (w:World) (t:TypeId) (cs:List Value) : Box (w.alloc (.cells cs.toArray t)) w.heap.size t cs := (MapKept.heap_alloc w _).1
theorem Box.alloc {w:World} {b:Nat} {t:TypeId} {cs:List Value} (h:Box w b t cs) (o:Obj) : Box (w.alloc o) b t cs := h.below (below_alloc w o) h.lt
theorem Box.set {w:World} {b:Nat} {t:TypeId} {cs:List Value} (h:Box w b t cs) (i:Nat) (v:Value) : Box (w.setCell ⟨b,i,none⟩ v) b t (cs.set i v) := by
 unfold Box at *
 simp[World.setCell,Array.getElem?_modify,h]
theorem Box.other {w:World} {b:Nat} {t:TypeId} {cs:List Value} (h:Box w b t cs) {a:Addr} (v:Value) (hne:b≠a.block) : Box (w.setCell a v) b t cs := by
 unfold Box at *
 rw[Below.heap_setCell _ _ _ _ hne]; exact h
theorem Box.grown {w w' : World} {b:Nat} {t:TypeId} {cs:List Value} {row:Option Nat} (h:Box w b t cs) (hg:w.grownBy w' row) (hne:row≠some b) : Box w' b t cs := by
 unfold Box at *
 rw[hg.block b (Array.getElem?_eq_some_iff.1 h).1 (fun e=>hne e.symm)]; exact h
theorem Box.drewN {w:World} {b:Nat} {t:TypeId} {cs:List Value} (h:Box w b t cs) (n:Nat) : Box (w.drewN n) b t cs := h

end Go.Proofs.YtjfnbnofjademaaGreatDoor

namespace Go.Proofs.YtjfnbnofjademaaGreatDoor
open Go.RowKit

def Strs (w:World) (v:Value) (l:List (List UInt8)) : Prop :=
 ∃ a cap,v = .slice a l.length cap∧l.length≤140737488355328 ∧ ∀ i,i<l.length → ∃ b o,a=some ⟨b,o,none⟩∧w.cell? ⟨b,o+i,none⟩=some (.string ⟨(l.getD i []).toArray⟩)∧(l.getD i []).length≤140737488355328

theorem Strs.drewN {w:World} {v:Value} {l:List (List UInt8)} (h:Strs w v l) (n:Nat) : Strs (w.drewN n) v l := h

theorem lt_of_cell {w:World} {b o:Nat} {v:Value} (h:w.cell? ⟨b,o,none⟩=some v) : b < w.heap.size := by
 unfold World.cell? at h
 by_cases hb:b<w.heap.size
 ·exact hb
 ·simp[Array.getElem?_eq_none (Nat.le_of_not_lt hb)] at h

theorem Strs.below {w w' : World} {v:Value} {l:List (List UInt8)} (h:Strs w v l) (hb:Below w.heap.size w w') : Strs w' v l := by
 obtain⟨a,cap,hv,hl,hc⟩:=h
 refine⟨a,cap,hv,hl,fun i hi => ?_⟩
 obtain⟨b,o,ha,hcell,hs⟩:=hc i hi
 exact⟨b,o,ha,by rw[hb.cell (p:=⟨b,o+i,none⟩) (lt_of_cell hcell)]; exact hcell,hs⟩

def Strss (w:World) (v:Value) (ll:List (List (List UInt8))) : Prop :=
 ∃ a cap,v = .slice a ll.length cap∧ll.length≤140737488355328 ∧ ∀ i,i<ll.length → ∃ b o u,a=some ⟨b,o,none⟩∧w.cell? ⟨b,o+i,none⟩=some u∧Strs w u (ll.getD i [])

theorem Strss.below {w w' : World} {v:Value} {l:List (List (List UInt8))} (h:Strss w v l) (hb:Below w.heap.size w w') : Strss w' v l := by
 obtain⟨a,cap,hv,hl,hc⟩:=h
 refine⟨a,cap,hv,hl,fun i hi => ?_⟩
 obtain⟨b,o,u,ha,hcell,hs⟩:=hc i hi
 exact⟨b,o,u,ha,by rw[hb.cell (p:=⟨b,o+i,none⟩) (lt_of_cell hcell)]; exact hcell,hs.below hb⟩

end Go.Proofs.YtjfnbnofjademaaGreatDoor

namespace Go.Proofs.YtjfnbnofjademaaGreatDoor
open Go.RowKit Go.WideShapes

def enc (s:List UInt8) : Value := .string ⟨s.toArray⟩

theorem enc_one (l:List (List UInt8)) : ∀ u ∈ l.map enc,u.oneCell' = true := by
 intro u hu
 obtain⟨s,_,rfl⟩:=List.mem_map.1 hu
 rfl

theorem Strs.row {w:World} {v:Value} {l:List (List UInt8)} (h:Strs w v l) : RowAt w v l.length 1 (l.map enc) := by
 obtain⟨a,cap,hv,hl,hc⟩:=h
 refine⟨a,cap,hv,by simp,fun j u hj => ?_⟩
 have hj' : j<l.length:=by have:=(List.getElem?_eq_some_iff.1 hj).1; simpa using this
 obtain⟨b,o,ha,hcell,_⟩:=hc j hj'
 refine⟨⟨b,o,none⟩,ha, ?_⟩
 rw[add_plain,hcell]
 simp[hj'] at hj
 rw[← hj]
 simp[enc,List.getD,hj']

theorem Strs.bounds {w:World} {v:Value} {l:List (List UInt8)} (h:Strs w v l) : l.length ≤ 140737488355328 ∧ ∀ s ∈ l,s.length ≤ 140737488355328 := by
 obtain⟨a,cap,hv,hl,hc⟩:=h
 refine⟨hl,fun s hs => ?_⟩
 obtain⟨i,hi,rfl⟩:=List.mem_iff_getElem.1 hs
 obtain⟨_,_,_,_,h2⟩:=hc i hi
 simpa [List.getD,hi] using h2

theorem own_cell {w:World} {base:Nat} {e:TypeId} {v:Value} {n:Nat} {xs:List Value} (h:w.ownsRow base e 1 v n xs) (i:Nat) (hi:i<n) :
  ∃ g cap,v = .slice (some ⟨g,0,none⟩) n cap∧base≤g∧n≤cap∧w.cell? ⟨g,i,none⟩=xs[i]? ∧ w.frozen? ⟨g,i,none⟩=false:=by
 rcases h.2 with ⟨_,h0⟩ | ⟨g,cap,cur,rfl,hb,hg,hn,hm,hc,hx⟩
 ·omega
 ·refine⟨g,cap,rfl,hb,hn, ?_,by simp[World.frozen?,hg]⟩
  rw[← hx]
  simp[World.cell?,hg,hi]

theorem own_form {w:World} {base:Nat} {e:TypeId} {v:Value} {n:Nat} {xs:List Value} (h:w.ownsRow base e 1 v n xs) : ∃ a cap,v = .slice a n cap := by
 rcases h.2 with ⟨rfl,rfl⟩ | ⟨g,cap,cur,rfl,_⟩
 ·exact⟨_,_,rfl⟩
 ·exact⟨_,_,rfl⟩

theorem Strs.of_own {w:World} {base:Nat} {e:TypeId} {v:Value} {l:List (List UInt8)} (h:w.ownsRow base e 1 v l.length (l.map enc)) (h1:l.length≤140737488355328) (h2 : ∀ s∈l,s.length≤140737488355328) : Strs w v l := by
 obtain⟨a,cap,hv⟩:=own_form h
 refine⟨a,cap,hv,h1,fun i hi => ?_⟩
 obtain⟨g,cap',hv',_,_,hc,_⟩:=own_cell h i hi
 rw[hv] at hv'
 cases hv'
 have e1:l.getD i []=l[i]:=by simp[List.getD,hi]
 refine⟨g,0,rfl, ?_,by rw[e1]; exact h2 _ (List.getElem_mem hi)⟩
 rw[Nat.zero_add,hc,e1]
 simp[hi,enc]

theorem own_below {w w' : World} {base B:Nat} {e:TypeId} {size:Nat} {v:Value} {n:Nat} {xs:List Value} (h:w.ownsRow base e size v n xs) (hb:Below B w w') (hlt : ∀ k,v.ownBlock=some k→k<B) : w'.ownsRow base e size v n xs := by
 refine⟨h.1, ?_⟩
 rcases h.2 with h2 | ⟨g,cap,cur,rfl,h3,hg,r⟩
 ·exact Or.inl h2
 ·exact Or.inr ⟨g,cap,cur,rfl,h3,by rw[hb.block g (hlt g rfl)]; exact hg,r⟩

theorem own_lt {w:World} {base:Nat} {e:TypeId} {size:Nat} {v:Value} {n:Nat} {xs:List Value} (h:w.ownsRow base e size v n xs) (k:Nat) (hk:v.ownBlock=some k) : k < w.heap.size := by
 rcases h.2 with ⟨rfl,_⟩ | ⟨g,cap,cur,rfl,h3,hg,r⟩
 ·cases hk
 ·cases hk
  exact (Array.getElem?_eq_some_iff.1 hg).1

theorem own_base {w:World} {base base' : Nat} {e:TypeId} {size:Nat} {v:Value} {n:Nat} {xs:List Value} (h:w.ownsRow base e size v n xs) (hb:base' ≤ base) : w.ownsRow base' e size v n xs := by
 refine⟨h.1, ?_⟩
 rcases h.2 with h2 | ⟨g,cap,cur,rfl,h3,hg,r⟩
 ·exact Or.inl h2
 ·exact Or.inr ⟨g,cap,cur,rfl,by omega,hg,r⟩

theorem own_ge {w:World} {base:Nat} {e:TypeId} {size:Nat} {v:Value} {n:Nat} {xs:List Value} (h:w.ownsRow base e size v n xs) (k:Nat) (hk:v.ownBlock=some k) : base ≤ k := by
 rcases h.2 with ⟨rfl,_⟩ | ⟨g,cap,cur,rfl,h3,hg,r⟩
 ·cases hk
 ·cases hk; exact h3

theorem RowAt.one (w:World) (u:Value) (t:TypeId) : RowAt (w.alloc (.cells #[u] t)) (.slice (some ⟨w.heap.size,0,none⟩) 1 1) 1 1 [u] := by
 refine⟨_,_,rfl,rfl,fun j x hj=>⟨_,rfl, ?_⟩⟩
 have hj0:j=0:=by have:=(List.getElem?_eq_some_iff.1 hj).1; simpa using this
 subst hj0
 simp at hj
 subst hj
 rw[add_plain,World.cell?_alloc_new]
 rfl

theorem own_set {w:World} {base:Nat} {e:TypeId} {size g n cap:Nat} {xs:List Value} (h:w.ownsRow base e size (.slice (some ⟨g,0,none⟩) n cap) n xs) (i:Nat) (u:Value) :
  (w.setCell ⟨g,i,none⟩ u).ownsRow base e size (.slice (some ⟨g,0,none⟩) n cap) n (xs.set i u):=by
 refine⟨by rw[List.length_set]; exact h.1, ?_⟩
 rcases h.2 with ⟨hx,_⟩ | ⟨g',cap',cur,hv,hb,hg,hn,hm,hc,hx⟩
 ·cases hx
 ·cases hv
  refine Or.inr ⟨g,cap,cur.set! i u,rfl,hb, ?_,hn,hm,by simp[hc], ?_⟩
  ·simp[World.setCell,Array.getElem?_modify,hg]
  ·rw[← hx]
   simp[List.take_set]

theorem own_other {w:World} {base:Nat} {e:TypeId} {size:Nat} {v:Value} {n:Nat} {xs:List Value} (h:w.ownsRow base e size v n xs) {a:Addr} (ha:v.ownBlock≠some a.block) (u:Value) : (w.setCell a u).ownsRow base e size v n xs := by
 refine⟨h.1, ?_⟩
 rcases h.2 with h2 | ⟨g,cap,cur,rfl,h3,hg,r⟩
 ·exact Or.inl h2
 ·exact Or.inr ⟨g,cap,cur,rfl,h3,by rw[Below.heap_setCell _ _ _ _ (fun e=>ha (by rw[e]; rfl))]; exact hg,r⟩

theorem own_drew {w:World} {base:Nat} {e:TypeId} {size:Nat} {v:Value} {n:Nat} {xs:List Value} (h:w.ownsRow base e size v n xs) : w.drew.ownsRow base e size v n xs := h

theorem own_box {w:World} {g base:Nat} {e:TypeId} {xs:List Value} (h:Box w g e xs) (hb:base≤g) (n size:Nat) (hl:xs.length=n*size) (hm:n≤maxLen) : w.ownsRow base e size (.slice (some ⟨g,0,none⟩) n n) n xs :=
 ⟨hl,Or.inr ⟨g,n,xs.toArray,rfl,hb,h,Nat.le_refl _,hm,by simpa using hl,by rw[← hl]; simp⟩⟩

end Go.Proofs.YtjfnbnofjademaaGreatDoor

namespace Go.Proofs.YtjfnbnofjademaaGreatDoor
open Go.RowKit

theorem infoStr : Tryz.prog.info? 9 = some Tryz.t9 := by kernel_rfl

theorem zeroStr : Tryz.t9.zero = some (.string ⟨#[]⟩) := by kernel_rfl

theorem sizeStr : Tryz.t9.size = 1 := by kernel_rfl

theorem bytesStr : Tryz.t9.bytes = 16 := by kernel_rfl

theorem boxes2 (w:World) (t0 t1:TypeId) (c0 c1:List Value) :
  Box ((w.alloc (.cells c0.toArray t0)).alloc (.cells c1.toArray t1)) w.heap.size t0 c0 ∧
  Box ((w.alloc (.cells c0.toArray t0)).alloc (.cells c1.toArray t1)) (w.heap.size+1) t1 c1 ∧
  Below w.heap.size w ((w.alloc (.cells c0.toArray t0)).alloc (.cells c1.toArray t1)):=by
 refine⟨(Box.new w _ _).alloc _, ?_,below_alloc2 w _ _⟩
 have:=Box.new (w.alloc (.cells c0.toArray t0)) t1 c1
 simp at this
 exact this

theorem boxes3 (w:World) (t0 t1 t2:TypeId) (c0 c1 c2:List Value) :
  Box (((w.alloc (.cells c0.toArray t0)).alloc (.cells c1.toArray t1)).alloc (.cells c2.toArray t2)) w.heap.size t0 c0 ∧
  Box (((w.alloc (.cells c0.toArray t0)).alloc (.cells c1.toArray t1)).alloc (.cells c2.toArray t2)) (w.heap.size+1) t1 c1 ∧
  Box (((w.alloc (.cells c0.toArray t0)).alloc (.cells c1.toArray t1)).alloc (.cells c2.toArray t2)) (w.heap.size+1+1) t2 c2 ∧
  Below w.heap.size w (((w.alloc (.cells c0.toArray t0)).alloc (.cells c1.toArray t1)).alloc (.cells c2.toArray t2)):=by
 refine⟨((Box.new w _ _).alloc _).alloc _, ?_, ?_, ?_⟩
 ·have:=Box.new (w.alloc (.cells c0.toArray t0)) t1 c1
  simp at this
  exact this.alloc _
 ·have:=Box.new ((w.alloc (.cells c0.toArray t0)).alloc (.cells c1.toArray t1)) t2 c2
  simp at this
  exact this
 ·exact (below_alloc2 w _ _).alloc (by simp; omega) _

theorem boxes4 (w:World) (t0 t1 t2 t3:TypeId) (c0 c1 c2 c3:List Value) :
  Box ((((w.alloc (.cells c0.toArray t0)).alloc (.cells c1.toArray t1)).alloc (.cells c2.toArray t2)).alloc (.cells c3.toArray t3)) w.heap.size t0 c0 ∧
  Box ((((w.alloc (.cells c0.toArray t0)).alloc (.cells c1.toArray t1)).alloc (.cells c2.toArray t2)).alloc (.cells c3.toArray t3)) (w.heap.size+1) t1 c1 ∧
  Box ((((w.alloc (.cells c0.toArray t0)).alloc (.cells c1.toArray t1)).alloc (.cells c2.toArray t2)).alloc (.cells c3.toArray t3)) (w.heap.size+1+1) t2 c2 ∧
  Box ((((w.alloc (.cells c0.toArray t0)).alloc (.cells c1.toArray t1)).alloc (.cells c2.toArray t2)).alloc (.cells c3.toArray t3)) (w.heap.size+1+1+1) t3 c3 ∧
  Below w.heap.size w ((((w.alloc (.cells c0.toArray t0)).alloc (.cells c1.toArray t1)).alloc (.cells c2.toArray t2)).alloc (.cells c3.toArray t3)):=by
 refine⟨(((Box.new w _ _).alloc _).alloc _).alloc _, ?_, ?_, ?_, ?_⟩
 ·have:=Box.new (w.alloc (.cells c0.toArray t0)) t1 c1
  simp at this
  exact (this.alloc _).alloc _
 ·have:=Box.new ((w.alloc (.cells c0.toArray t0)).alloc (.cells c1.toArray t1)) t2 c2
  simp at this
  exact this.alloc _
 ·have:=Box.new (((w.alloc (.cells c0.toArray t0)).alloc (.cells c1.toArray t1)).alloc (.cells c2.toArray t2)) t3 c3
  simp at this
  exact this
 ·exact (((below_alloc2 w _ _).alloc (by simp; omega) _).alloc (by simp; omega) _)

theorem own_formN {w:World} {base size:Nat} {e:TypeId} {v:Value} {n:Nat} {xs:List Value} (h:w.ownsRow base e size v n xs) : ∃ a cap,v = .slice a n cap := by
 rcases h.2 with ⟨rfl,rfl⟩ | ⟨g,cap,cur,rfl,_⟩
 ·exact⟨_,_,rfl⟩
 ·exact⟨_,_,rfl⟩

theorem own_cellN {w:World} {base size:Nat} {e:TypeId} {v:Value} {n:Nat} {xs:List Value} (h:w.ownsRow base e size v n xs) (hs:0<size) (k:Nat) (hk:k<n*size) :
  ∃ g cap,v = .slice (some ⟨g,0,none⟩) n cap∧base≤g∧n≤cap∧w.cell? ⟨g,k,none⟩=xs[k]? ∧ w.frozen? ⟨g,k,none⟩=false:=by
 rcases h.2 with ⟨_,rfl⟩ | ⟨g,cap,cur,rfl,hb,hg,hn,hm,hc,hx⟩
 ·have:=h.1; simp at hk
 ·refine⟨g,cap,rfl,hb,hn, ?_,by simp[World.frozen?,hg]⟩
  rw[← hx]
  simp[World.cell?,hg,hk]

theorem step_go {P:Program} (w:World) {ops:Array Oper} {o:Oper} {a:Act} {K:Act→World→Prop} {Q:Exit→Act→World→Prop} {E:Prop} (hgd:o.guard=none) (f:FuncId) (args:List Operand) (ts:Array TypeId)
  (ho:o.op = .call { callee := .value (.func f),args:=args.toArray,argTypes:=ts }) (vs:List Value) (hv:args.map a.eval=vs) (hcf : ∀ us w,(callFunc f us).run P w = .ok (.enter f us) w) (R:Value→World→Prop)
  (hc:Calls P f vs.toArray w fun e w' => ∃ v',e = .returned v' ∧ R v' w') (h : ∀ v' w',R v' w' → K (a.put o.dst v') w') :
  if Region.wanted o (yielded ops a.tmps)=true then Oper.wp P o a w K Q else E:=by
 rw[if_pos (by simp[Region.wanted,hgd])]
 unfold Oper.wp execOp
 simp only[ho,resolve,invoke,Act.eval,go_sem,Sem.run_bind,Sem.run_pure,Result.andThen_ok,List.map_toArray,hv]
 rw[hcf]
 unfold Oper.upon
 simp only[Array.empty_append,Array.append_empty]
 refine hc.mono ?_
 rintro e w' ⟨v',rfl,hr⟩
 exact h v' w' hr

theorem Below.up {w w' : World} (h:Below w.heap.size w w') (o:Obj) : Below w.heap.size w (w'.alloc o) := h.alloc h.size o

theorem Below.far {w w' w'' : World} (h:Below w.heap.size w w') (k:Below w'.heap.size w' w'') : Below w.heap.size w w'' := h.trans (k.mono h.size)

theorem own_type {w:World} {base:Nat} {e t:TypeId} {size:Nat} {v:Value} {n b:Nat} {xs cs:List Value} (h:w.ownsRow base e size v n xs) (hb:Box w b t cs) (hne:e≠t) : v.ownBlock ≠ some b := fun hv => by
 rcases h.2 with ⟨rfl,_⟩ | ⟨g,cap,cur,rfl,h3,hg,r⟩
 ·cases hv
 ·cases hv
  unfold Box at hb
  rw[hb] at hg
  injection hg with hg
  injection hg with _ h2
  exact hne h2.symm

theorem own_types {w:World} {base base' : Nat} {e e' : TypeId} {size size' : Nat} {v v' : Value} {n n' g:Nat} {xs xs' : List Value} (h:w.ownsRow base e size v n xs) (h' : w.ownsRow base' e' size' v' n' xs') (hne:e≠e') (hg:v'.ownBlock=some g) : v.ownBlock ≠ some g := fun hv => by
 rcases h.2 with ⟨rfl,_⟩ | ⟨g1,cap,cur,rfl,h3,hg1,r⟩
 ·cases hv
 ·cases hv
  rcases h'.2 with ⟨rfl,_⟩ | ⟨g2,cap2,cur2,rfl,h4,hg2,r2⟩
  ·cases hg
  ·cases hg
   rw[hg1] at hg2
   injection hg2 with hg2
   injection hg2 with _ h2
   exact hne h2

end Go.Proofs.YtjfnbnofjademaaGreatDoor

namespace Go.Proofs.YtjfnbnofjademaaGreatDoor
open Go.RowKit

def opCells (o:OpM) : List Value := [.int .i64 o.kind, .int .i64 o.place, .int .i64 o.snap, .string ⟨o.data.toArray⟩]

def repVal (r:ReplyM) : Value := .agg #[.int .i64 r.code, .int .i64 r.n, .string ⟨r.data.toArray⟩]

end Go.Proofs.YtjfnbnofjademaaGreatDoor

/- How lists of strings lie in memory, and what keeps them there. -/
import Derived.Test.YtmdgkjbiicaljahGreatDoorJointStageMath
import Derived.Test.YtmdgkjbiicaljahGreatDoorJointRowlaw
import Derived.Deep.AppendLies
import Derived.Deep.RegionLaw
import Derived.BigRegion
set_option linter.unusedVariables false
set_option linter.unusedSimpArgs false
namespace Go.Proofs.YtmdgkjbiicaljahGreatDoor
open Go.RowKit

/-- The value is a slice over the strings l. -/
def Strs (w : World) (v : Value) (l : List (List UInt8)) : Prop :=
 ∃ a cap,v = .slice a l.length cap∧l.length≤140737488355328 ∧ ∀ i,i < l.length → ∃ b o,a=some ⟨b,o,none⟩∧w.cell? ⟨b,o+i,none⟩=some (.string ⟨(l.getD i []).toArray⟩)∧(l.getD i []).length≤140737488355328

theorem Strs.drewN {w : World} {v : Value} {l : List (List UInt8)} (h : Strs w v l) (n : Nat) : Strs (w.drewN n) v l := h

theorem lt_of_cell {w : World} {b o : Nat} {v : Value} (h : w.cell? ⟨b,o,none⟩ = some v) : b < w.heap.size := by
 unfold World.cell? at h
 by_cases hb:b < w.heap.size
 ·exact hb
 ·simp[Array.getElem?_eq_none (Nat.le_of_not_lt hb)] at h

theorem Strs.below {w w' : World} {v : Value} {l : List (List UInt8)} (h : Strs w v l) (hb : Below w.heap.size w w') : Strs w' v l := by
 obtain⟨a,cap,hv,hl,hc⟩:=h
 refine⟨a,cap,hv,hl,fun i hi => ?_⟩
 obtain⟨b,o,ha,hcell,hs⟩:=hc i hi
 exact⟨b,o,ha,by rw[hb.cell (p:=⟨b,o+i,none⟩) (lt_of_cell hcell)]; exact hcell,hs⟩

/-- The value is a slice over lists of strings. -/
def Strss (w : World) (v : Value) (ll : List (List (List UInt8))) : Prop :=
 ∃ a cap,v = .slice a ll.length cap∧ll.length≤140737488355328 ∧ ∀ i,i < ll.length → ∃ b o u,a=some ⟨b,o,none⟩∧w.cell? ⟨b,o+i,none⟩=some u∧Strs w u (ll.getD i [])

theorem Strss.below {w w' : World} {v : Value} {l : List (List (List UInt8))} (h : Strss w v l) (hb : Below w.heap.size w w') : Strss w' v l := by
 obtain⟨a,cap,hv,hl,hc⟩:=h
 refine⟨a,cap,hv,hl,fun i hi => ?_⟩
 obtain⟨b,o,u,ha,hcell,hs⟩:=hc i hi
 exact⟨b,o,u,ha,by rw[hb.cell (p:=⟨b,o+i,none⟩) (lt_of_cell hcell)]; exact hcell,hs.below hb⟩

end Go.Proofs.YtmdgkjbiicaljahGreatDoor

/- Lists of strings that lie in memory of the call's own. -/
namespace Go.Proofs.YtmdgkjbiicaljahGreatDoor
open Go.RowKit Go.WideShapes

def enc (s : List UInt8) : Value := .string ⟨s.toArray⟩

theorem enc_one (l : List (List UInt8)) : ∀ u ∈ l.map enc,u.oneCell' = true := by
 intro u hu
 obtain⟨s,_,rfl⟩:=List.mem_map.1 hu
 rfl

theorem Strs.row {w : World} {v : Value} {l : List (List UInt8)} (h : Strs w v l) : RowAt w v l.length 1 (l.map enc) := by
 obtain⟨a,cap,hv,hl,hc⟩:=h
 refine⟨a,cap,hv,by simp,fun j u hj => ?_⟩
 have hj' : j < l.length:=by have:=(List.getElem?_eq_some_iff.1 hj).1; simpa using this
 obtain⟨b,o,ha,hcell,_⟩:=hc j hj'
 refine⟨⟨b,o,none⟩,ha, ?_⟩
 rw[add_plain,hcell]
 simp[hj'] at hj
 rw[← hj]
 simp[enc,List.getD,hj']

theorem Strs.bounds {w : World} {v : Value} {l : List (List UInt8)} (h : Strs w v l) : l.length ≤ 140737488355328 ∧ ∀ s ∈ l,s.length ≤ 140737488355328 := by
 obtain⟨a,cap,hv,hl,hc⟩:=h
 refine⟨hl,fun s hs => ?_⟩
 obtain⟨i,hi,rfl⟩:=List.mem_iff_getElem.1 hs
 obtain⟨_,_,_,_,h2⟩:=hc i hi
 simpa [List.getD,hi] using h2

theorem own_cell {w : World} {base : Nat} {e : TypeId} {v : Value} {n : Nat} {xs : List Value} (h : w.ownsRow base e 1 v n xs) (i : Nat) (hi : i < n) :
  ∃ g cap,v = .slice (some ⟨g,0,none⟩) n cap∧base≤g∧n≤cap∧w.cell? ⟨g,i,none⟩=xs[i]? ∧ w.frozen? ⟨g,i,none⟩=false:=by
 rcases h.2 with ⟨_,h0⟩ | ⟨g,cap,cur,rfl,hb,hg,hn,hm,hc,hx⟩
 ·omega
 ·refine⟨g,cap,rfl,hb,hn, ?_,by simp[World.frozen?,hg]⟩
  rw[← hx]
  simp[World.cell?,hg,hi]

theorem own_form {w : World} {base : Nat} {e : TypeId} {v : Value} {n : Nat} {xs : List Value} (h : w.ownsRow base e 1 v n xs) : ∃ a cap,v = .slice a n cap := by
 rcases h.2 with ⟨rfl,rfl⟩ | ⟨g,cap,cur,rfl,_⟩
 ·exact⟨_,_,rfl⟩
 ·exact⟨_,_,rfl⟩

theorem Strs.of_own {w : World} {base : Nat} {e : TypeId} {v : Value} {l : List (List UInt8)} (h : w.ownsRow base e 1 v l.length (l.map enc)) (h1 : l.length ≤ 140737488355328) (h2 : ∀ s ∈ l,s.length ≤ 140737488355328) : Strs w v l := by
 obtain⟨a,cap,hv⟩:=own_form h
 refine⟨a,cap,hv,h1,fun i hi => ?_⟩
 obtain⟨g,cap',hv',_,_,hc,_⟩:=own_cell h i hi
 rw[hv] at hv'
 cases hv'
 have e1:l.getD i []=l[i]:=by simp[List.getD,hi]
 refine⟨g,0,rfl, ?_,by rw[e1]; exact h2 _ (List.getElem_mem hi)⟩
 rw[Nat.zero_add,hc,e1]
 simp[hi,enc]

/-- What a call owns stays while nothing but new memory, or another block, is written. -/
theorem own_below {w w' : World} {base B : Nat} {e : TypeId} {size : Nat} {v : Value} {n : Nat} {xs : List Value} (h : w.ownsRow base e size v n xs) (hb : Below B w w') (hlt : ∀ k,v.ownBlock = some k → k < B) : w'.ownsRow base e size v n xs := by
 refine⟨h.1, ?_⟩
 rcases h.2 with h2 | ⟨g,cap,cur,rfl,h3,hg,r⟩
 ·exact Or.inl h2
 ·exact Or.inr ⟨g,cap,cur,rfl,h3,by rw[hb.block g (hlt g rfl)]; exact hg,r⟩

theorem own_lt {w : World} {base : Nat} {e : TypeId} {size : Nat} {v : Value} {n : Nat} {xs : List Value} (h : w.ownsRow base e size v n xs) (k : Nat) (hk : v.ownBlock = some k) : k < w.heap.size := by
 rcases h.2 with ⟨rfl,_⟩ | ⟨g,cap,cur,rfl,h3,hg,r⟩
 ·cases hk
 ·cases hk
  exact (Array.getElem?_eq_some_iff.1 hg).1

theorem own_base {w : World} {base base' : Nat} {e : TypeId} {size : Nat} {v : Value} {n : Nat} {xs : List Value} (h : w.ownsRow base e size v n xs) (hb : base' ≤ base) : w.ownsRow base' e size v n xs := by
 refine⟨h.1, ?_⟩
 rcases h.2 with h2 | ⟨g,cap,cur,rfl,h3,hg,r⟩
 ·exact Or.inl h2
 ·exact Or.inr ⟨g,cap,cur,rfl,by omega,hg,r⟩

theorem own_ge {w : World} {base : Nat} {e : TypeId} {size : Nat} {v : Value} {n : Nat} {xs : List Value} (h : w.ownsRow base e size v n xs) (k : Nat) (hk : v.ownBlock = some k) : base ≤ k := by
 rcases h.2 with ⟨rfl,_⟩ | ⟨g,cap,cur,rfl,h3,hg,r⟩
 ·cases hk
 ·cases hk; exact h3

/-- One value in a block of its own, as a slice of one. -/
theorem RowAt.one (w : World) (u : Value) (t : TypeId) : RowAt (w.alloc (.cells #[u] t)) (.slice (some ⟨w.heap.size,0,none⟩) 1 1) 1 1 [u] := by
 refine⟨_,_,rfl,rfl,fun j x hj=>⟨_,rfl, ?_⟩⟩
 have hj0:j=0:=by have:=(List.getElem?_eq_some_iff.1 hj).1; simpa using this
 subst hj0
 simp at hj
 subst hj
 rw[add_plain,World.cell?_alloc_new]
 rfl

/-- A store into an owned row. -/
theorem own_set {w : World} {base : Nat} {e : TypeId} {size g n cap : Nat} {xs : List Value} (h : w.ownsRow base e size (.slice (some ⟨g,0,none⟩) n cap) n xs) (i : Nat) (u : Value) :
  (w.setCell ⟨g,i,none⟩ u).ownsRow base e size (.slice (some ⟨g,0,none⟩) n cap) n (xs.set i u):=by
 refine⟨by rw[List.length_set]; exact h.1, ?_⟩
 rcases h.2 with ⟨hx,_⟩ | ⟨g',cap',cur,hv,hb,hg,hn,hm,hc,hx⟩
 ·cases hx
 ·cases hv
  refine Or.inr ⟨g,cap,cur.set! i u,rfl,hb, ?_,hn,hm,by simp[hc], ?_⟩
  ·simp[World.setCell,Array.getElem?_modify,hg]
  ·rw[← hx]
   simp[List.take_set]

theorem own_other {w : World} {base : Nat} {e : TypeId} {size : Nat} {v : Value} {n : Nat} {xs : List Value} (h : w.ownsRow base e size v n xs) {a : Addr} (ha : v.ownBlock ≠ some a.block) (u : Value) : (w.setCell a u).ownsRow base e size v n xs := by
 refine⟨h.1, ?_⟩
 rcases h.2 with h2 | ⟨g,cap,cur,rfl,h3,hg,r⟩
 ·exact Or.inl h2
 ·exact Or.inr ⟨g,cap,cur,rfl,h3,by rw[Below.heap_setCell _ _ _ _ (fun e=>ha (by rw[e]; rfl))]; exact hg,r⟩

theorem own_drew {w : World} {base : Nat} {e : TypeId} {size : Nat} {v : Value} {n : Nat} {xs : List Value} (h : w.ownsRow base e size v n xs) : w.drew.ownsRow base e size v n xs := h

/-- A block known whole, as a slice of all of it. -/
theorem own_box {w : World} {g base : Nat} {e : TypeId} {xs : List Value} (h : Box w g e xs) (hb : base ≤ g) (n size : Nat) (hl : xs.length = n * size) (hm : n ≤ maxLen) : w.ownsRow base e size (.slice (some ⟨g,0,none⟩) n n) n xs :=
 ⟨hl,Or.inr ⟨g,n,xs.toArray,rfl,hb,h,Nat.le_refl _,hm,by simpa using hl,by rw[← hl]; simp⟩⟩

end Go.Proofs.YtmdgkjbiicaljahGreatDoor

/- Blocks laid by a call at its start; rows of a call's own; calls inside regions that draw their order. -/
namespace Go.Proofs.YtmdgkjbiicaljahGreatDoor
open Go.RowKit

theorem infoStr : Tryz.prog.info? 9 = some Tryz.t9 := by kernel_rfl

theorem zeroStr : Tryz.t9.zero = some (.string ⟨#[]⟩) := by kernel_rfl

theorem sizeStr : Tryz.t9.size = 1 := by kernel_rfl

theorem bytesStr : Tryz.t9.bytes = 16 := by kernel_rfl

theorem boxes2 (w : World) (t0 t1 : TypeId) (c0 c1 : List Value) :
  Box ((w.alloc (.cells c0.toArray t0)).alloc (.cells c1.toArray t1)) w.heap.size t0 c0 ∧
  Box ((w.alloc (.cells c0.toArray t0)).alloc (.cells c1.toArray t1)) (w.heap.size+1) t1 c1 ∧
  Below w.heap.size w ((w.alloc (.cells c0.toArray t0)).alloc (.cells c1.toArray t1)):=by
 refine⟨(Box.new w _ _).alloc _, ?_,below_alloc2 w _ _⟩
 have:=Box.new (w.alloc (.cells c0.toArray t0)) t1 c1
 simp at this
 exact this

theorem boxes3 (w : World) (t0 t1 t2 : TypeId) (c0 c1 c2 : List Value) :
  Box (((w.alloc (.cells c0.toArray t0)).alloc (.cells c1.toArray t1)).alloc (.cells c2.toArray t2)) w.heap.size t0 c0 ∧
  Box (((w.alloc (.cells c0.toArray t0)).alloc (.cells c1.toArray t1)).alloc (.cells c2.toArray t2)) (w.heap.size+1) t1 c1 ∧
  Box (((w.alloc (.cells c0.toArray t0)).alloc (.cells c1.toArray t1)).alloc (.cells c2.toArray t2)) (w.heap.size+1+1) t2 c2 ∧
  Below w.heap.size w (((w.alloc (.cells c0.toArray t0)).alloc (.cells c1.toArray t1)).alloc (.cells c2.toArray t2)):=by
 refine⟨((Box.new w _ _).alloc _).alloc _, ?_, ?_, ?_⟩
 ·have:=Box.new (w.alloc (.cells c0.toArray t0)) t1 c1
  simp at this
  exact this.alloc _
 ·have:=Box.new ((w.alloc (.cells c0.toArray t0)).alloc (.cells c1.toArray t1)) t2 c2
  simp at this
  exact this
 ·exact (below_alloc2 w _ _).alloc (by simp; omega) _

/-- Four blocks laid by a call at its start. -/
theorem boxes4 (w : World) (t0 t1 t2 t3 : TypeId) (c0 c1 c2 c3 : List Value) :
  Box ((((w.alloc (.cells c0.toArray t0)).alloc (.cells c1.toArray t1)).alloc (.cells c2.toArray t2)).alloc (.cells c3.toArray t3)) w.heap.size t0 c0 ∧
  Box ((((w.alloc (.cells c0.toArray t0)).alloc (.cells c1.toArray t1)).alloc (.cells c2.toArray t2)).alloc (.cells c3.toArray t3)) (w.heap.size+1) t1 c1 ∧
  Box ((((w.alloc (.cells c0.toArray t0)).alloc (.cells c1.toArray t1)).alloc (.cells c2.toArray t2)).alloc (.cells c3.toArray t3)) (w.heap.size+1+1) t2 c2 ∧
  Box ((((w.alloc (.cells c0.toArray t0)).alloc (.cells c1.toArray t1)).alloc (.cells c2.toArray t2)).alloc (.cells c3.toArray t3)) (w.heap.size+1+1+1) t3 c3 ∧
  Below w.heap.size w ((((w.alloc (.cells c0.toArray t0)).alloc (.cells c1.toArray t1)).alloc (.cells c2.toArray t2)).alloc (.cells c3.toArray t3)):=by
 refine⟨(((Box.new w _ _).alloc _).alloc _).alloc _, ?_, ?_, ?_, ?_⟩
 ·have:=Box.new (w.alloc (.cells c0.toArray t0)) t1 c1
  simp at this
  exact (this.alloc _).alloc _
 ·have:=Box.new ((w.alloc (.cells c0.toArray t0)).alloc (.cells c1.toArray t1)) t2 c2
  simp at this
  exact this.alloc _
 ·have:=Box.new (((w.alloc (.cells c0.toArray t0)).alloc (.cells c1.toArray t1)).alloc (.cells c2.toArray t2)) t3 c3
  simp at this
  exact this
 ·exact (((below_alloc2 w _ _).alloc (by simp; omega) _).alloc (by simp; omega) _)

theorem own_formN {w : World} {base size : Nat} {e : TypeId} {v : Value} {n : Nat} {xs : List Value} (h : w.ownsRow base e size v n xs) : ∃ a cap,v = .slice a n cap := by
 rcases h.2 with ⟨rfl,rfl⟩ | ⟨g,cap,cur,rfl,_⟩
 ·exact⟨_,_,rfl⟩
 ·exact⟨_,_,rfl⟩

theorem own_cellN {w : World} {base size : Nat} {e : TypeId} {v : Value} {n : Nat} {xs : List Value} (h : w.ownsRow base e size v n xs) (hs : 0 < size) (k : Nat) (hk : k < n * size) :
  ∃ g cap,v = .slice (some ⟨g,0,none⟩) n cap∧base≤g∧n≤cap∧w.cell? ⟨g,k,none⟩=xs[k]? ∧ w.frozen? ⟨g,k,none⟩=false:=by
 rcases h.2 with ⟨_,rfl⟩ | ⟨g,cap,cur,rfl,hb,hg,hn,hm,hc,hx⟩
 ·have:=h.1; simp at hk
 ·refine⟨g,cap,rfl,hb,hn, ?_,by simp[World.frozen?,hg]⟩
  rw[← hx]
  simp[World.cell?,hg,hk]

/-- A call of a Go function at a step of a region that draws its order. -/
theorem step_go {P : Program} (w : World) {ops : Array Oper} {o : Oper} {a : Act} {K : Act → World → Prop} {Q : Exit → Act → World → Prop} {E : Prop} (hgd : o.guard = none) (f : FuncId) (args : List Operand) (ts : Array TypeId)
  (ho:o.op = .call { callee := .value (.func f),args:=args.toArray,argTypes:=ts }) (vs:List Value) (hv:args.map a.eval=vs) (hcf : ∀ us w,(callFunc f us).run P w = .ok (.enter f us) w) (R:Value→World→Prop)
  (hc:Calls P f vs.toArray w fun e w' => ∃ v',e = .returned v' ∧ R v' w') (h : ∀ v' w',R v' w' → K (a.put o.dst v') w') :
  if Region.wanted o (yielded ops a.tmps)=true then Oper.wp P o a w K Q else E:=by
 rw[if_pos (by simp[Region.wanted,hgd])]
 unfold Oper.wp execOp
 simp only[ho,resolve,invoke,Act.eval,go_sem,Sem.run_bind,Sem.run_pure,Result.andThen_ok,List.map_toArray,hv]
 rw[hcf]
 unfold Oper.upon
 simp only[Array.empty_append,Array.append_empty]
 refine hc.mono ?_
 rintro e w' ⟨v',rfl,hr⟩
 exact h v' w' hr

theorem Below.up {w w' : World} (h : Below w.heap.size w w') (o : Obj) : Below w.heap.size w (w'.alloc o) := h.alloc h.size o

theorem Below.far {w w' w'' : World} (h : Below w.heap.size w w') (k : Below w'.heap.size w' w'') : Below w.heap.size w w'' := h.trans (k.mono h.size)

theorem own_type {w : World} {base : Nat} {e t : TypeId} {size : Nat} {v : Value} {n b : Nat} {xs cs : List Value} (h : w.ownsRow base e size v n xs) (hb : Box w b t cs) (hne : e ≠ t) : v.ownBlock ≠ some b := fun hv => by
 rcases h.2 with ⟨rfl,_⟩ | ⟨g,cap,cur,rfl,h3,hg,r⟩
 ·cases hv
 ·cases hv
  unfold Box at hb
  rw[hb] at hg
  injection hg with hg
  injection hg with _ h2
  exact hne h2.symm

theorem own_types {w : World} {base base' : Nat} {e e' : TypeId} {size size' : Nat} {v v' : Value} {n n' g : Nat} {xs xs' : List Value} (h : w.ownsRow base e size v n xs) (h' : w.ownsRow base' e' size' v' n' xs') (hne : e ≠ e') (hg : v'.ownBlock = some g) : v.ownBlock ≠ some g := fun hv => by
 rcases h.2 with ⟨rfl,_⟩ | ⟨g1,cap,cur,rfl,h3,hg1,r⟩
 ·cases hv
 ·cases hv
  rcases h'.2 with ⟨rfl,_⟩ | ⟨g2,cap2,cur2,rfl,h4,hg2,r2⟩
  ·cases hg
  ·cases hg
   rw[hg1] at hg2
   injection hg2 with hg2
   injection hg2 with _ h2
   exact hne h2

end Go.Proofs.YtmdgkjbiicaljahGreatDoor

/- How operations and replies lie in memory. -/
namespace Go.Proofs.YtmdgkjbiicaljahGreatDoor
open Go.RowKit

def opCells (o : OpM) : List Value := [.int .i64 o.kind, .int .i64 o.place, .int .i64 o.snap, .string ⟨o.data.toArray⟩]

def repVal (r : ReplyM) : Value := .agg #[.int .i64 r.code, .int .i64 r.n, .string ⟨r.data.toArray⟩]

end Go.Proofs.YtmdgkjbiicaljahGreatDoor

/- How volumes lie in memory: those that came in, and those that a call made. -/
namespace Go.Proofs.YtmdgkjbiicaljahGreatDoor
open Go.RowKit

/-- The value is a volume. -/
def VolAt (w : World) (v : Value) (V : VolM) : Prop := ∃ vn vs,v = .agg #[vn,vs] ∧ Strs w vn V.now ∧ Strss w vs V.snaps
theorem VolAt.below {w w' : World} {v : Value} {V : VolM} (h : VolAt w v V) (hb : Below w.heap.size w w') : VolAt w' v V := by
 obtain⟨vn,vs,hv,h1,h2⟩:=h
 exact⟨vn,vs,hv,h1.below hb,h2.below hb⟩

theorem infoStrs : Tryz.prog.info? 42 = some Tryz.t42 := by kernel_rfl
theorem zeroStrs : Tryz.t42.zero = some (.slice none 0 0) := by kernel_rfl
theorem sizeStrs : Tryz.t42.size = 1 := by kernel_rfl
theorem bytesStrs : Tryz.t42.bytes = 24 := by kernel_rfl

/-- Sizes of a volume's lists within the form's own reach. -/
structure VolFits (V : VolM) : Prop where
 now:V.now.length * 16≤140737488355328
 snaps:V.snaps.length * 24≤140737488355328
 each : ∀ l ∈ V.snaps,l.length * 16≤140737488355328

/-- Two slices lie in different blocks, or one of them in none. -/
def Apart (u v : Value) : Prop := ∀ k,u.ownBlock = some k → v.ownBlock ≠ some k

/-- The first k lists of strings lie, each in memory of the call's own (from block B on), in the cells us; none in the block of v. -/
def OwnEach (w : World) (B : Nat) (v : Value) (us : List Value) (ll : List (List (List UInt8))) : Prop :=
 us.length=ll.length ∧ ∀ i u,us[i]? = some u→w.ownsRow B 9 1 u (ll.getD i []).length ((ll.getD i []).map enc)∧Apart v u

/-- A volume in memory of the call's own, from block B on. -/
def VolNew (w : World) (B : Nat) (v : Value) (V : VolM) : Prop :=
 ∃ vn vs us,v = .agg #[vn,vs]∧w.ownsRow B 9 1 vn V.now.length (V.now.map enc)∧w.ownsRow B 42 1 vs V.snaps.length us∧OwnEach w B vn us V.snaps∧OwnEach w B vs us V.snaps∧Apart vn vs

theorem OwnEach.map {w w' : World} {B B' : Nat} {v : Value} {us : List Value} {ll : List (List (List UInt8))} (h : OwnEach w B v us ll)
  (f : ∀ (e:TypeId) (x:Value) (m:Nat) (xs:List Value),w.ownsRow B e 1 x m xs→w'.ownsRow B' e 1 x m xs):OwnEach w' B' v us ll :=
 ⟨h.1,fun i u hu=>⟨f _ _ _ _ (h.2 i u hu).1,(h.2 i u hu).2⟩⟩

theorem VolNew.map {w w' : World} {B B' : Nat} {v : Value} {V : VolM} (h : VolNew w B v V)
  (f : ∀ (e:TypeId) (x:Value) (m:Nat) (xs:List Value),w.ownsRow B e 1 x m xs→w'.ownsRow B' e 1 x m xs):VolNew w' B' v V:=by
 obtain⟨vn,vs,us,rfl,hn,hs,h1,h2,h3⟩:=h
 exact⟨vn,vs,us,rfl,f _ _ _ _ hn,f _ _ _ _ hs,h1.map f,h2.map f,h3⟩

/-- A store below the base turns nothing of what a call made. -/
theorem VolNew.other {w : World} {B : Nat} {v : Value} {V : VolM} (h : VolNew w B v V) {a : Addr} (ha : a.block < B) (x : Value) : VolNew (w.setCell a x) B v V :=
 h.map fun _ _ _ _ r=>ownsRow_setCell_below r ha x
theorem VolNew.base {w : World} {B B' : Nat} {v : Value} {V : VolM} (h : VolNew w B v V) (hb : B' ≤ B) : VolNew w B' v V :=
 h.map fun _ _ _ _ r=>own_base r hb
/-- New memory turns nothing of it. -/
theorem VolNew.below {w w' : World} {B : Nat} {v : Value} {V : VolM} (h : VolNew w B v V) (hb : Below w.heap.size w w') : VolNew w' B v V :=
 h.map fun _ _ _ _ r=>own_below r hb (own_lt r)
theorem VolNew.form {w : World} {B : Nat} {v : Value} {V : VolM} (h : VolNew w B v V) : ∃ a c a' c',v = .agg #[.slice a V.now.length c, .slice a' V.snaps.length c'] := by
 obtain⟨vn,vs,us,rfl,hn,hs,_⟩:=h
 obtain⟨a,c,rfl⟩:=own_form hn
 obtain⟨a',c',rfl⟩:=own_form hs
 exact⟨_,_,_,_,rfl⟩

theorem VolNew.drew {w : World} {B : Nat} {v : Value} {V : VolM} (h : VolNew w B v V) : VolNew w.drew B v V := h
/-- A sector written in place. -/
theorem VolNew.write {w : World} {B g c : Nat} {vs : Value} {V : VolM} (h : VolNew w B (.agg #[.slice (some ⟨g,0,none⟩) V.now.length c,vs]) V) (q : Nat) (s : List UInt8) :
  VolNew (w.setCell ⟨g,q,none⟩ (.string ⟨s.toArray⟩)) B (.agg #[.slice (some ⟨g,0,none⟩) V.now.length c,vs]) { V with now:=V.now.set q s } := by
 obtain⟨vn,vs',us,hv,hn,hs,h1,h2,h3⟩:=h
 cases hv
 have hn' := own_set hn q (.string ⟨s.toArray⟩)
 refine⟨_,_,us,rfl, ?_,own_other hs (fun e=>h3 g rfl e) _, ?_, ?_,h3⟩
 ·have e1:(V.now.set q s).map enc=(V.now.map enc).set q (.string ⟨s.toArray⟩):=by rw[List.map_set]; rfl
  have e2:(V.now.set q s).length=V.now.length:=List.length_set
  show World.ownsRow _ B _ 1 _ (V.now.set q s).length ((V.now.set q s).map enc)
  rw[e1,e2]
  exact hn'
 ·exact⟨h1.1,fun i u hu=>⟨own_other (h1.2 i u hu).1 (fun e=>(h1.2 i u hu).2 g rfl e) _,(h1.2 i u hu).2⟩⟩
 ·exact⟨h2.1,fun i u hu=>⟨own_other (h1.2 i u hu).1 (fun e=>(h1.2 i u hu).2 g rfl e) _,(h2.2 i u hu).2⟩⟩

/-- A list of sectors appended to a volume's snapshots; wC: the world behind it, in which blocks from lo to below hi alone may have turned since. -/
theorem vol_snap {w wA wB wC : World} {B hi : Nat} {vn vs vs' u : Value} {us : List Value} {V : VolM} {l : List (List UInt8)} {O : Obj}
  (hn:w.ownsRow B 9 1 vn V.now.length (V.now.map enc)) (hs:w.ownsRow B 42 1 vs V.snaps.length us) (h1:OwnEach w B vn us V.snaps) (h2:OwnEach w B vs us V.snaps) (hap:Apart vn vs)
  (hBw:B≤w.heap.size) (hA:Below w.heap.size w wA) (hhi:w.heap.size≤hi) (hhA:hi≤wA.heap.size) (hu:wA.ownsRow hi 9 1 u l.length (l.map enc))
  (hgB:(wA.alloc O).grownBy wB vs.ownBlock) (hB:wB.ownsRow B 42 1 vs' (V.snaps.length+1) (us ++ [u])) (hat:vs'.ownBlock=vs.ownBlock∨vs'.ownBlock=some (wA.heap.size+1))
  (hC : ∀ k,k < w.heap.size∨hi≤k→wC.heap[k]? = wB.heap[k]?):VolNew wC B (.agg #[vn,vs']) { V with snaps:=V.snaps ++ [l] } := by
 have hA1:Below w.heap.size w (wA.alloc O):=hA.alloc hA.size _
 have keepB : ∀ (e:TypeId) (x:Value) (m:Nat) (xs:List Value),w.ownsRow B e 1 x m xs→Apart vs x→wC.ownsRow B e 1 x m xs:=by
  intro e x m xs h ha
  have h3:wB.ownsRow B e 1 x m xs:=by
   refine (own_below h hA1 (own_lt h)).kept hgB ?_
   cases hx:x.ownBlock with
   | none=>exact Or.inl rfl
   | some g=>exact Or.inr (fun e=>ha g e.symm hx)
  refine⟨h3.1, ?_⟩
  rcases h3.2 with h4 | ⟨g,cap,cur,rfl,h5,hg,r⟩
  ·exact Or.inl h4
  ·exact Or.inr ⟨g,cap,cur,rfl,h5,by rw[hC g (Or.inl (own_lt h g rfl))]; exact hg,r⟩
 have symm : ∀ {a b:Value},Apart a b→Apart b a:=fun h k hk hb=>h k hb hk
 have hvs' : wC.ownsRow B 42 1 vs' (V.snaps.length+1) (us ++ [u]):=by
  refine⟨hB.1, ?_⟩
  rcases hB.2 with h4 | ⟨g,cap,cur,rfl,h5,hg,r⟩
  ·exact Or.inl h4
  ·refine Or.inr ⟨g,cap,cur,rfl,h5, ?_,r⟩
   rw[hC g ?_]
   ·exact hg
   ·rcases hat with e | e
    ·exact Or.inl (own_lt hs g e.symm)
    ·have:g=wA.heap.size+1:=by simpa [Value.ownBlock] using e
     right; omega
 have hgu:=own_ge hu
 have hlu:=own_lt hu
 have hap3 : ∀ x:Value,(∀ g,x.ownBlock=some g→g < w.heap.size)→Apart x u:=fun x hx g hg hug=>by
  have:=hx g hg
  have:=hgu g hug
  omega
 have huC:wC.ownsRow B 9 1 u l.length (l.map enc):=by
  have h3:wB.ownsRow hi 9 1 u l.length (l.map enc):=by
   refine (own_below hu (below_alloc wA O) hlu).kept hgB ?_
   cases hx:u.ownBlock with
   | none=>exact Or.inl rfl
   | some g=>exact Or.inr (fun e=>hap3 vs (own_lt hs) g e.symm hx)
  refine⟨h3.1, ?_⟩
  rcases h3.2 with h4 | ⟨g,cap,cur,rfl,h5,hg,r⟩
  ·exact Or.inl h4
  ·exact Or.inr ⟨g,cap,cur,rfl,by omega,by rw[hC g (Or.inr h5)]; exact hg,r⟩
 have apv : ∀ x:Value,Apart vs x→(∀ g,x.ownBlock=some g→g < w.heap.size)→Apart vs' x:=fun x ha hx g hg hxg=>by
  rcases hat with e | e
  ·exact ha g (e ▸ hg) hxg
  ·have:=hx g hxg
   have:=hA.size
   rw[e] at hg
   cases hg
   omega
 have apu:Apart vs' u:=fun g hg hug=>by
  rcases hat with e | e
  ·exact hap3 vs (own_lt hs) g (e ▸ hg) hug
  ·have:=hlu g hug
   rw[e] at hg
   cases hg
   omega
 refine⟨vn,vs',us ++ [u],rfl,keepB _ _ _ _ hn (symm hap),by simpa using hvs',⟨by simp[h1.1], ?_⟩,⟨by simp[h1.1], ?_⟩,symm (apv vn (symm hap) (own_lt hn))⟩
 all_goals
  intro i x hx
  by_cases hi:i < us.length
  ·rw[List.getElem?_append_left hi] at hx
   have hg:(V.snaps ++ [l]).getD i []=V.snaps.getD i []:=by
    have:i < V.snaps.length:=by rw[← h1.1]; exact hi
    simp[List.getD,List.getElem?_append_left this]
   show World.ownsRow _ _ _ _ _ ((V.snaps ++ [l]).getD i []).length (((V.snaps ++ [l]).getD i []).map enc)∧_
   rw[hg]
   refine⟨keepB _ _ _ _ (h1.2 i x hx).1 (h2.2 i x hx).2, ?_⟩
   first
    | exact (h1.2 i x hx).2
    | exact apv x (h2.2 i x hx).2 (own_lt (h1.2 i x hx).1)
  ·rw[List.getElem?_append_right (by omega)] at hx
   have hi2:i=us.length:=by
    have:=(List.getElem?_eq_some_iff.1 hx).1
    simp at this
    omega
   subst hi2
   simp at hx
   subst hx
   have hg:(V.snaps ++ [l]).getD us.length []=l:=by rw[h1.1]; simp[List.getD]
   show World.ownsRow _ _ _ _ _ ((V.snaps ++ [l]).getD us.length []).length (((V.snaps ++ [l]).getD us.length []).map enc)∧_
   rw[hg]
   refine⟨huC, ?_⟩
   first
    | exact hap3 vn (own_lt hn)
    | exact apu

/-- What a call made reads as a volume. -/
theorem VolNew.at {w : World} {B : Nat} {v : Value} {V : VolM} (h : VolNew w B v V) (hz : VolFits V) (h1 : ∀ s ∈ V.now,s.length ≤ 140737488355328) (h2 : ∀ l ∈ V.snaps,∀ s ∈ l,s.length ≤ 140737488355328) : VolAt w v V := by
 obtain⟨vn,vs,us,rfl,hn,hs,hu,_,_⟩:=h
 have z1:=hz.now
 have z2:=hz.snaps
 refine⟨vn,vs,rfl,Strs.of_own hn (by omega) h1, ?_⟩
 obtain⟨a,cap,hv⟩:=own_form hs
 refine⟨a,cap,hv,by omega,fun i hi => ?_⟩
 obtain⟨g,cap',hv',_,_,hc,_⟩:=own_cell hs i hi
 rw[hv] at hv'
 cases hv'
 have hi' : i < us.length:=by rw[hu.1]; exact hi
 have hui:us[i]? = some us[i]:=List.getElem?_eq_getElem hi'
 have hmem:V.snaps.getD i [] ∈ V.snaps:=by
  rw[show V.snaps.getD i []=V.snaps[i] by simp[List.getD,hi]]; exact List.getElem_mem hi
 have z3:=hz.each _ hmem
 exact⟨g,0,us[i],rfl,by rw[Nat.zero_add,hc,hui],Strs.of_own (hu.2 i _ hui).1 (by omega) (h2 _ hmem)⟩

theorem VolAt.texts {w : World} {v : Value} {V : VolM} (h : VolAt w v V) : (∀ s ∈ V.now,s.length ≤ 140737488355328) ∧ (∀ l ∈ V.snaps,∀ s ∈ l,s.length ≤ 140737488355328) := by
 obtain⟨vn,vs,rfl,hn,a,cap,rfl,hl,hc⟩:=h
 refine⟨hn.bounds.2,fun l hl => ?_⟩
 obtain⟨i,hi,rfl⟩:=List.mem_iff_getElem.1 hl
 obtain⟨_,_,_,_,_,hs⟩:=hc i hi
 rw[show V.snaps.getD i []=V.snaps[i] by simp[List.getD,hi]] at hs
 exact hs.bounds.2

/-- What an operation leaves is a volume that may be. -/
theorem didV_fits (V : VolM) (o : OpM) (hv : volFault V = 0) (ho : opFault o = 0) : VolFits (didV V o) ∧ (∀ s ∈ (didV V o).now,s.length ≤ 8) ∧ (∀ l ∈ (didV V o).snaps,∀ s ∈ l,s.length ≤ 8) := by
 have hm:=volMay_of V hv
 have hom:=opMay_of o ho
 have hl:=volMay_len hm
 unfold volMay at hm
 simp only[Bool.and_eq_true,decide_eq_true_eq,List.all_eq_true] at hm
 have hn:=secMay_len hm.1.1
 have hs:=fun l hl=>secMay_len (hm.2 l hl)
 have fits : ∀ X:VolM,X.now.length=6→X.snaps.length≤3→(∀ l ∈ X.snaps,l.length=6)→VolFits X:=fun X a b c=>⟨by omega,by omega,fun l hl=>by have:=c l hl; omega⟩
 have hset : ∀ (x:List UInt8) (i:Nat),x.length≤8 → ∀ s ∈ V.now.set i x,s.length≤8:=fun x i hx s hs=>by
  rcases List.mem_or_eq_of_mem_set hs with h | h
  ·exact hn.2 s h
  ·rw[h]; exact hx
 unfold didV
 split
 ·exact⟨fits _ (by simpa using hn.1) hl.2.1 hl.2.2,hset _ _ hom.2.2.2,fun l h=>(hs l h).2⟩
 split
 ·exact⟨fits _ (by simpa using hn.1) hl.2.1 hl.2.2,hset _ _ (by simp),fun l h=>(hs l h).2⟩
 split
 ·exact⟨fits _ hn.1 hl.2.1 hl.2.2,hn.2,fun l h=>(hs l h).2⟩
 split
 ·refine⟨fits _ hn.1 (by simp; omega) (fun l h => ?_),hn.2,fun l h => ?_⟩
  ·rcases List.mem_append.1 h with h | h
   ·exact hl.2.2 l h
   ·simp at h; rw[h]; exact hn.1
  ·rcases List.mem_append.1 h with h | h
   ·exact (hs l h).2
   ·simp at h; rw[h]; exact hn.2
 ·exact⟨fits _ hn.1 hl.2.1 hl.2.2,hn.2,fun l h=>(hs l h).2⟩

theorem VolNew.nil (w : World) (B : Nat) : VolNew w B (.agg #[.slice none 0 0, .slice none 0 0]) ⟨[],[]⟩ :=
 ⟨_,_,[],rfl,World.ownsRow_nil _ _ _ _,World.ownsRow_nil _ _ _ _,⟨rfl,fun i u hu=>by simp at hu⟩,⟨rfl,fun i u hu=>by simp at hu⟩,fun k hk=>by cases hk⟩

def newVol : VolM := ⟨List.replicate 6 [],[]⟩

theorem newVol_at {w : World} {g B : Nat} (h : Box w g 9 [.string ⟨#[]⟩, .string ⟨#[]⟩, .string ⟨#[]⟩, .string ⟨#[]⟩, .string ⟨#[]⟩, .string ⟨#[]⟩]) (hb : B ≤ g) : VolNew w B (.agg #[.slice (some ⟨g,0,none⟩) 6 6, .slice none 0 0]) newVol :=
 ⟨_,_,[],rfl,own_box h hb 6 1 rfl (by decide),World.ownsRow_nil _ _ _ _,⟨rfl,fun i u hu=>by simp at hu⟩,⟨rfl,fun i u hu=>by simp at hu⟩,fun k _ hk=>by cases hk⟩

theorem newVol_fits : VolFits newVol := ⟨by decide,by decide,fun l hl => by simp [newVol] at hl⟩

end Go.Proofs.YtmdgkjbiicaljahGreatDoor

/- Package net: how the replicas, slots, messages, clients, told and codes of a script lie behind the world's pointer. -/
import Derived.Test.YtmdgkjbiicaljahGreatDoorNetMath
import Derived.Test.YtmdgkjbiicaljahGreatDoorTickGo
import Derived.Test.YtmdgkjbiicaljahGreatDoorJointKeepGo
import Derived.Test.YtmdgkjbiicaljahGreatDoorTakeGo
import Derived.Test.YtmdgkjbiicaljahGreatDoorJointVolMem
import Derived.BigQuiet
import Derived.Deep.QuietTactic
import Derived.Deep.DeepCutAuto
import Derived.Test.YtmdgkjbiicaljahGreatDoorRegFree
set_option linter.unusedVariables false
set_option linter.unusedSimpArgs false
namespace Go.Proofs.YtmdgkjbiicaljahGreatDoor
open Go.RowKit

/-! ### Rows of other element types than these stay as they are. -/
def Stay (ts : List TypeId) (w w' : World) : Prop := ∀ (base : Nat) (e : TypeId) (s : Nat) (x : Value) (m : Nat) (xs : List Value),e ∉ ts → w.ownsRow base e s x m xs → w'.ownsRow base e s x m xs
theorem Stay.trans {ts us : List TypeId} {u v w : World} (h : Stay ts u v) (k : Stay us v w) : Stay (ts ++ us) u w := fun b e s x m xs he r => k b e s x m xs (fun q => he (List.mem_append.2 (Or.inr q))) (h b e s x m xs (fun q => he (List.mem_append.2 (Or.inl q))) r)
theorem Stay.mono {ts us : List TypeId} {w w' : World} (h : Stay ts w w') (hs : ∀ t ∈ ts,t ∈ us) : Stay us w w' := fun b e s x m xs he r => h b e s x m xs (fun q => he (hs e q)) r
theorem Stay.below {ts : List TypeId} {w w' : World} (h : Below w.heap.size w w') : Stay ts w w' := fun b e s x m xs _ r => own_below r h (own_lt r)
theorem Stay.set {w : World} {b : Nat} {t : TypeId} {cs : List Value} (hb : Box w b t cs) (i : Nat) (x : Value) : Stay [t] w (w.setCell ⟨b,i,none⟩ x) :=
 fun _ e _ _ _ _ he r=>own_other r (own_type r hb (fun q=>he (by simp[q]))) x
theorem Stay.row {w : World} {base g n cap size : Nat} {t : TypeId} {ys : List Value} (ho : w.ownsRow base t size (.slice (some ⟨g,0,none⟩) n cap) n ys) (xs : List Value) (k : Nat) : Stay [t] w (setAll w g k xs) :=
 fun _ e _ _ _ _ he r=>setAll_own xs w k r (own_types r ho (fun q=>he (by simp[q])) rfl)
theorem Stay.grown {w w' : World} {base size : Nat} {t : TypeId} {v : Value} {n : Nat} {xs : List Value} (ho : w.ownsRow base t size v n xs) (hg : w.grownBy w' v.ownBlock) : Stay [t] w w' := by
 intro b e s x m ys he r
 exact own_grown r hg fun k hk q=>own_types r ho (fun q=>he (by simp[q])) q.symm hk

/-! ### The rows. -/
structure RepP where
 R:ReplM
 vl:Value
 vh:Value
 vw:Value
 vg:Value
 vn:Value
 ps:List (KeptM × Value)
def repRow (p : RepP) : List Value := replCells p.R p.vl p.vh p.vw p.vg p.vn
theorem repRow_len (p : RepP) : (repRow p).length = 10 := rfl
def RowsR (w : World) (B : Nat) (v : Value) (l : List ReplM) : Prop :=
 ∃ rs:List RepP,l=rs.map RepP.R∧w.ownsRow B 49 10 v rs.length (rs.flatMap repRow) ∧ ∀ p ∈ rs,ReplOwn w B p.R p.vl p.vh p.vw p.vg p.vn p.ps
def RowsS (w : World) (B : Nat) (v : Value) (l : List (List (List UInt8))) : Prop :=
 ∃ ss:List (List (List UInt8) × Value),l=ss.map Prod.fst∧w.ownsRow B 42 1 v ss.length (ss.map Prod.snd) ∧ ∀ p ∈ ss,w.ownsRow B 9 1 p.2 p.1.length (p.1.map enc)
def custCells (c : CustM) : List Value := [.int .i64 c.id, .int .i64 c.next, .int .i64 c.wait.client, .int .i64 c.wait.num, .int .i64 c.wait.op.kind, .int .i64 c.wait.op.place, .int .i64 c.wait.op.snap, .string ⟨c.wait.op.data.toArray⟩]
theorem custCells_len (c : CustM) : (custCells c).length = 8 := rfl
def toldCells (t : ToldM) : List Value := [.int .i64 t.req.client, .int .i64 t.req.num, .int .i64 t.req.op.kind, .int .i64 t.req.op.place, .int .i64 t.req.op.snap, .string ⟨t.req.op.data.toArray⟩, .int .i64 t.rep.code, .int .i64 t.rep.n, .string ⟨t.rep.data.toArray⟩]
def RowsC (w : World) (B : Nat) (v : Value) (l : List CustM) : Prop := w.ownsRow B 105 8 v l.length (l.flatMap custCells)
def RowsT (w : World) (B : Nat) (v : Value) (l : List ToldM) : Prop := w.ownsRow B 66 9 v l.length (l.flatMap toldCells)
def RowsK (w : World) (B : Nat) (v : Value) (l : List Int) : Prop := w.ownsRow B 33 1 v l.length (l.map encI)

theorem RowsR.stay {ts : List TypeId} {w w' : World} {B : Nat} {v : Value} {l : List ReplM} (h : RowsR w B v l) (hk : Stay ts w w') (ht : 49 ∉ ts ∧ 9 ∉ ts ∧ 3 ∉ ts ∧ 4 ∉ ts ∧ 44 ∉ ts) : RowsR w' B v l := by
 obtain⟨rs,h1,h2,h3⟩:=h
 obtain⟨t1,t2,t3,t4,t5⟩:=ht
 exact⟨rs,h1,hk _ _ _ _ _ _ t1 h2,fun p hp=>(h3 p hp).map fun e _ _ _ _ he r=>hk _ _ _ _ _ _ (by rcases he with rfl | rfl | rfl | rfl <;> assumption) r⟩
theorem RowsS.stay {ts : List TypeId} {w w' : World} {B : Nat} {v : Value} {l : List (List (List UInt8))} (h : RowsS w B v l) (hk : Stay ts w w') (ht : 42 ∉ ts ∧ 9 ∉ ts) : RowsS w' B v l := by
 obtain⟨ss,h1,h2,h3⟩:=h
 exact⟨ss,h1,hk _ _ _ _ _ _ ht.1 h2,fun p hp=>hk _ _ _ _ _ _ ht.2 (h3 p hp)⟩
theorem MsgsNew.stay {ts : List TypeId} {w w' : World} {B : Nat} {v : Value} {l : List MsgM} (h : MsgsNew w B v l) (hk : Stay ts w w') (ht : 141 ∉ ts ∧ 9 ∉ ts) : MsgsNew w' B v l := by
 obtain⟨ps,h1,h2⟩:=h
 obtain⟨t1,t2⟩:=ht
 exact⟨ps,h1,h2.map fun e _ _ _ _ he r=>hk _ _ _ _ _ _ (by rcases he with rfl | rfl <;> assumption) r⟩
theorem RowsC.stay {ts : List TypeId} {w w' : World} {B : Nat} {v : Value} {l : List CustM} (h : RowsC w B v l) (hk : Stay ts w w') (ht : 105 ∉ ts) : RowsC w' B v l := hk _ _ _ _ _ _ ht h
theorem RowsT.stay {ts : List TypeId} {w w' : World} {B : Nat} {v : Value} {l : List ToldM} (h : RowsT w B v l) (hk : Stay ts w w') (ht : 66 ∉ ts) : RowsT w' B v l := hk _ _ _ _ _ _ ht h
theorem RowsK.stay {ts : List TypeId} {w w' : World} {B : Nat} {v : Value} {l : List Int} (h : RowsK w B v l) (hk : Stay ts w w') (ht : 33 ∉ ts) : RowsK w' B v l := hk _ _ _ _ _ _ ht h
theorem ReplNew.stay {ts : List TypeId} {w w' : World} {B : Nat} {v : Value} {R : ReplM} (h : ReplNew w B v R) (hk : Stay ts w w') (ht : 9 ∉ ts ∧ 3 ∉ ts ∧ 4 ∉ ts ∧ 44 ∉ ts) : ReplNew w' B v R := by
 obtain⟨vl,vh,vw,vg,vn,ps,hv,h⟩:=h
 obtain⟨t2,t3,t4,t5⟩:=ht
 exact⟨vl,vh,vw,vg,vn,ps,hv,h.map fun e _ _ _ _ he r=>hk _ _ _ _ _ _ (by rcases he with rfl | rfl | rfl | rfl <;> assumption) r⟩

/-- What lies behind the world's pointer is what comes of the script. -/
structure NetRows (w : World) (B : Nat) (N : NetM) (vr vs vf vc vt vk : Value) : Prop where
 r:RowsR w B vr N.repls
 s:RowsS w B vs N.slots
 f:MsgsNew w B vf N.flying
 c:RowsC w B vc N.custs
 t:RowsT w B vt N.told
 k:RowsK w B vk N.codes
def NetAt (w : World) (B b : Nat) (N : NetM) : Prop :=
 ∃ vr vs vf vc vt vk,Box w b 87 [vr,vs,vf,vc,vt,vk]∧NetRows w B N vr vs vf vc vt vk
theorem NetRows.below {w w' : World} {B : Nat} {N : NetM} {vr vs vf vc vt vk : Value} (h : NetRows w B N vr vs vf vc vt vk) (hb : Below w.heap.size w w') : NetRows w' B N vr vs vf vc vt vk :=
 have q:Stay [] w w' := Stay.below hb
 ⟨h.r.stay q (by simp),h.s.stay q (by simp),h.f.stay q (by simp),h.c.stay q (by simp),h.t.stay q (by simp),h.k.stay q (by simp)⟩
theorem NetAt.below {w w' : World} {B b : Nat} {N : NetM} (h : NetAt w B b N) (hb : Below w.heap.size w w') : NetAt w' B b N := by
 obtain⟨vr,vs,vf,vc,vt,vk,hx,hr⟩:=h
 exact⟨vr,vs,vf,vc,vt,vk,hx.below hb hx.lt,hr.below hb⟩
theorem NetRows.stay {ts : List TypeId} {w w' : World} {B : Nat} {N : NetM} {vr vs vf vc vt vk : Value} (h : NetRows w B N vr vs vf vc vt vk) (hk : Stay ts w w') (ht : ∀ e ∈ [49,9,3,4,44,42,141,105,66,33],e ∉ ts) : NetRows w' B N vr vs vf vc vt vk :=
 ⟨h.r.stay hk ⟨ht _ (by simp),ht _ (by simp),ht _ (by simp),ht _ (by simp),ht _ (by simp)⟩,h.s.stay hk ⟨ht _ (by simp),ht _ (by simp)⟩,h.f.stay hk ⟨ht _ (by simp),ht _ (by simp)⟩,h.c.stay hk (ht _ (by simp)),h.t.stay hk (ht _ (by simp)),h.k.stay hk (ht _ (by simp))⟩

/-! ### Readings. -/
theorem RowsR.form {w : World} {B : Nat} {v : Value} {l : List ReplM} (h : RowsR w B v l) : ∃ a c,v = .slice a l.length c := by
 obtain⟨rs,rfl,h2,_⟩:=h
 obtain⟨a,c,e⟩:=own_formN h2
 exact⟨a,c,by rw[List.length_map]; exact e⟩
theorem RowsS.form {w : World} {B : Nat} {v : Value} {l : List (List (List UInt8))} (h : RowsS w B v l) : ∃ a c,v = .slice a l.length c := by
 obtain⟨rs,rfl,h2,_⟩:=h
 obtain⟨a,c,e⟩:=own_form h2
 exact⟨a,c,by rw[List.length_map]; exact e⟩
/-- A replica's cells, and that they are one. -/
theorem RowsR.read {w : World} {B : Nat} {v : Value} {l : List ReplM} (h : RowsR w B v l) (i : Nat) (hi : i < l.length) (R : ReplM) (hR : l.getD i zeroRepl = R) :
  ∃ g cap vl vh vw vg vn ps,v = .slice (some ⟨g,0,none⟩) l.length cap∧B≤g∧ReplOwn w B R vl vh vw vg vn ps ∧ ∀ j,j < 10→w.cell? ⟨g,i * 10+j,none⟩=(replCells R vl vh vw vg vn)[j]? ∧ w.frozen? ⟨g,i * 10+j,none⟩=false:=by
 obtain⟨rs,rfl,h2,h3⟩:=h
 rw[List.length_map] at hi ⊢
 obtain⟨g,cap,hv,hB,_,_,_⟩:=own_cellN h2 (by decide) (i * 10) (by omega)
 have hR' : rs[i].R=R:=by rw[← hR]; simp[List.getD,hi]
 subst hR'
 refine⟨g,cap,rs[i].vl,rs[i].vh,rs[i].vw,rs[i].vg,rs[i].vn,rs[i].ps,hv,hB,h3 _ (List.getElem_mem hi),fun j hj => ?_⟩
 obtain⟨g',cap',hv',_,_,hc,hf⟩:=own_cellN h2 (by decide) (i * 10+j) (by omega)
 rw[hv] at hv'
 simp only[Value.slice.injEq,Option.some.injEq,Addr.mk.injEq,and_true] at hv'
 obtain⟨rfl,_,rfl⟩:=hv'
 exact⟨by rw[hc,flat_get repRow 10 repRow_len rs i j rs[i] (List.getElem?_eq_getElem hi) hj]; rfl,hf⟩
theorem RowsS.read {w : World} {B : Nat} {v : Value} {l : List (List (List UInt8))} (h : RowsS w B v l) (i : Nat) (hi : i < l.length) (s : List (List UInt8)) (hs : l.getD i [] = s) :
  ∃ g cap vl,v = .slice (some ⟨g,0,none⟩) l.length cap∧B≤g∧w.ownsRow B 9 1 vl s.length (s.map enc)∧w.cell? ⟨g,i,none⟩=some vl∧w.frozen? ⟨g,i,none⟩=false:=by
 obtain⟨ss,rfl,h2,h3⟩:=h
 rw[List.length_map] at hi ⊢
 obtain⟨g,cap,hv,hB,_,hc,hf⟩:=own_cell h2 i hi
 have hs' : ss[i].1=s:=by rw[← hs]; simp[List.getD,hi]
 subst hs'
 exact⟨g,cap,ss[i].2,hv,hB,h3 _ (List.getElem_mem hi),by rw[hc]; simp[hi],hf⟩
theorem RowsC.read {w : World} {B : Nat} {v : Value} {l : List CustM} (h : RowsC w B v l) (i : Nat) (hi : i < l.length) (c : CustM) (hc : l.getD i zeroCust = c) :
  ∃ g cap,v = .slice (some ⟨g,0,none⟩) l.length cap∧B≤g ∧ ∀ j,j < 8→w.cell? ⟨g,i * 8+j,none⟩=(custCells c)[j]? ∧ w.frozen? ⟨g,i * 8+j,none⟩=false:=by
 obtain⟨g,cap,hv,hB,_,_,_⟩:=own_cellN h (by decide) (i * 8) (by omega)
 have hc' : l[i]=c:=by rw[← hc]; simp[List.getD,hi]
 refine⟨g,cap,hv,hB,fun j hj => ?_⟩
 obtain⟨g',cap',hv',_,_,hc1,hf⟩:=own_cellN h (by decide) (i * 8+j) (by omega)
 rw[hv] at hv'
 simp only[Value.slice.injEq,Option.some.injEq,Addr.mk.injEq,and_true] at hv'
 obtain⟨rfl,_,rfl⟩:=hv'
 exact⟨by rw[hc1,flat_get custCells 8 custCells_len l i j c (by rw[List.getElem?_eq_getElem hi,hc']) hj],hf⟩
theorem MsgsNew.read {w : World} {B : Nat} {v : Value} {l : List MsgM} (h : MsgsNew w B v l) (i : Nat) (hi : i < l.length) (M : MsgM) (hM : l.getD i zeroMsg = M) :
  ∃ g cap vl,v = .slice (some ⟨g,0,none⟩) l.length cap∧B≤g∧w.ownsRow B 9 1 vl M.log.length (M.log.map enc) ∧ ∀ j,j < 8→w.cell? ⟨g,i * 8+j,none⟩=(msgCells M vl)[j]? ∧ w.frozen? ⟨g,i * 8+j,none⟩=false:=by
 obtain⟨rs,rfl,h2,h3⟩:=h
 rw[List.length_map] at hi ⊢
 obtain⟨g,cap,hv,hB,_,_,_⟩:=own_cellN h2 (by decide) (i * 8) (by omega)
 have hR' : rs[i].1=M:=by rw[← hM]; simp[List.getD,hi]
 subst hR'
 refine⟨g,cap,rs[i].2,hv,hB,h3 _ (List.getElem_mem hi),fun j hj => ?_⟩
 obtain⟨g',cap',hv',_,_,hc,hf⟩:=own_cellN h2 (by decide) (i * 8+j) (by omega)
 rw[hv] at hv'
 simp only[Value.slice.injEq,Option.some.injEq,Addr.mk.injEq,and_true] at hv'
 obtain⟨rfl,_,rfl⟩:=hv'
 exact⟨by rw[hc,flat_get msgRow 8 msgRow_len rs i j rs[i] (List.getElem?_eq_getElem hi) hj]; rfl,hf⟩

/-! ### A row's element is another one. -/
theorem RowsR.put {w : World} {B g cap n : Nat} {l : List ReplM} (h : RowsR w B (.slice (some ⟨g,0,none⟩) n cap) l) (i : Nat) (hi : i < l.length) (R : ReplM) (vl vh vw vg vn : Value) (ps : List (KeptM × Value)) (ho : ReplOwn w B R vl vh vw vg vn ps) :
  RowsR (setAll w g (i * 10) (replCells R vl vh vw vg vn)) B (.slice (some ⟨g,0,none⟩) n cap) (l.set i R)∧Stay [49] w (setAll w g (i * 10) (replCells R vl vh vw vg vn)):=by
 obtain⟨rs,rfl,h2,h3⟩:=h
 rw[List.length_map] at hi
 obtain⟨a,c,e⟩:=own_formN h2
 simp only[Value.slice.injEq] at e
 obtain⟨_,rfl,_⟩:=e
 have st:Stay [49] w (setAll w g (i * 10) (replCells R vl vh vw vg vn)):=Stay.row h2 _ _
 refine⟨⟨rs.set i ⟨R,vl,vh,vw,vg,vn,ps⟩,by rw[List.map_set], ?_,fun p hp => ?_⟩,st⟩
 ·rw[List.length_set,flat_set repRow 10 repRow_len rs i _ hi]
  exact own_putAll _ _ _ _ h2
 ·have : ∀ q:RepP,ReplOwn w B q.R q.vl q.vh q.vw q.vg q.vn q.ps→ReplOwn (setAll w g (i * 10) (replCells R vl vh vw vg vn)) B q.R q.vl q.vh q.vw q.vg q.vn q.ps:=fun q hq=>hq.map fun e _ _ _ _ he r=>st _ _ _ _ _ _ (by rcases he with rfl | rfl | rfl | rfl <;> decide) r
  rcases List.mem_or_eq_of_mem_set hp with q | q
  ·exact this _ (h3 p q)
  ·rw[q]; exact this ⟨R,vl,vh,vw,vg,vn,ps⟩ ho
theorem RowsS.put {w : World} {B g cap n : Nat} {l : List (List (List UInt8))} (h : RowsS w B (.slice (some ⟨g,0,none⟩) n cap) l) (i : Nat) (hi : i < l.length) (s : List (List UInt8)) (vl : Value) (ho : w.ownsRow B 9 1 vl s.length (s.map enc)) :
  RowsS (w.setCell ⟨g,i,none⟩ vl) B (.slice (some ⟨g,0,none⟩) n cap) (l.set i s)∧Stay [42] w (w.setCell ⟨g,i,none⟩ vl):=by
 obtain⟨rs,rfl,h2,h3⟩:=h
 rw[List.length_map] at hi
 obtain⟨a,c,e⟩:=own_form h2
 simp only[Value.slice.injEq] at e
 obtain⟨_,rfl,_⟩:=e
 have st:Stay [42] w (w.setCell ⟨g,i,none⟩ vl):=Stay.row h2 [vl] i
 refine⟨⟨rs.set i (s,vl),by rw[List.map_set], ?_,fun p hp => ?_⟩,st⟩
 ·rw[List.length_set,List.map_set]
  exact own_set h2 i vl
 ·rcases List.mem_or_eq_of_mem_set hp with q | q
  ·exact st _ _ _ _ _ _ (by decide) (h3 p q)
  ·rw[q]; exact st _ _ _ _ _ _ (by decide) ho

end Go.Proofs.YtmdgkjbiicaljahGreatDoor

/- slices.Equal of lists of texts. -/
namespace Go.Proofs.YtmdgkjbiicaljahGreatDoor
open Go.RowKit
attribute [local go_sem] app_list ext_list get_list byteAt_zero

theorem lists_ne {x y : List (List UInt8)} (k : Nat) (h : x.getD k [] ≠ y.getD k []) : x ≠ y := fun e => h (by rw [e])
theorem lists_eq {x y : List (List UInt8)} (hl : x.length = y.length) (h : ∀ j,j < x.length → x.getD j [] = y.getD j []) : x = y := by
 apply List.ext_getElem hl
 intro i h1 h2
 have:=h i h1
 simpa [List.getD,h1,h2] using this
set_option maxRecDepth 4000 in
set_option maxHeartbeats 1000000 in
theorem equalStrs_any (x y : List (List UInt8)) (v v' : Value) (w : World) (hx : Strs w v x) (hy : Strs w v' y) :
  Calls Tryz.prog 18 #[v,v'] w fun e w' => e = .returned (.bool (decide (x=y)))∧Below w.heap.size w w' := by
 have HN:Hid (∀ k,x.getD k []≠y.getD k []→decide (x=y)=false):=fun k h=>decide_eq_false (lists_ne k h)
 have HQ:Hid (x.length=y.length→(∀ j,j < x.length→x.getD j []=y.getD j [])→decide (x=y)=true):=fun h h' => decide_eq_true (lists_eq h h')
 have HL:Hid (x.length≠y.length→decide (x=y)=false):=fun h=>decide_eq_false fun e=>h (by rw[e])
 generalize decide (x=y)=D at *
 obtain⟨a,c,rfl,hlx,hcx⟩:=hx
 obtain⟨a',c',rfl,hly,hcy⟩:=hy
 by_cases hl:x.length=y.length
 ·have q0:((x.length:Int) == (y.length:Int))=true:=beq_iff_eq.mpr (by omega)
  have q1:((x.length:Int) != (y.length:Int))=false:=by simp only[bne,q0,Bool.not_true]
  have HLE:Hid (x.length=y.length):=hl
  clear hl
  go_enter Tryz.func18,Tryz.ntmps18
  go_wp2_with fail
  go_loopw [13] (fun i wr => ∃ k:Nat,k≤x.length∧i = .int .i64 k∧Below w.heap.size w wr∧(∀ j,j < k→x.getD j []=y.getD j [])) (fun i wr=>x.length - (intOf i).toNat)
  case atStart=>exact⟨0,by omega,rfl,Below.refl _ _,fun j h=>absurd h (by omega)⟩
  case round =>
   obtain⟨k,hk,rfl,hbr,hal⟩:=hrel
   have HBR:Hid (Below w.heap.size w wr):=hbr
   have HAL:Hid (∀ j,j < k→x.getD j []=y.getD j []):=hal
   clear hal
   by_cases hlt:k < x.length
   ·obtain⟨b,o,rfl,h1,_⟩:=hcx k hlt
    obtain⟨b',o',rfl,h1',_⟩:=hcy k (by have:=HLE.out; omega)
    have t0:=(HBR.out.cell (p:=⟨b,_,none⟩) (lt_of_cell h1)).trans h1
    have t1:=(HBR.out.cell (p:=⟨b',_,none⟩) (lt_of_cell h1')).trans h1'
    have k0:(0:Int)≤(k:Int):=by omega
    have k1:(k:Int) < (x.length:Int):=by omega
    have k2:(k:Int) < (y.length:Int):=by have:=HLE.out; omega
    clear hcx hcy h1 h1' hbr
    have HS:Hid (x.getD k []≠y.getD k []→D=false):=HN.out k
    have HE:Hid (x.getD k []=y.getD k [] → ∀ j,j < k+1→x.getD j []=y.getD j []):=fun e j hj=>by
     by_cases hjk:j=k
     ·rw[hjk]; exact e
     ·exact HAL.out j (by omega)
    generalize x.getD k []=s at *
    generalize y.getD k []=t at *
    by_cases hst:s=t
    ·subst hst
     have hq:(s == s)=true:=by simp
     go_wp2_with fail
     go_quiet (fail)
     go_wp2_with fail
     go_roundw
     case rel=>exact⟨k+1,by omega,by go_num,Below.far HBR.out (below_drew_n _ _),HE.out trivial⟩
     case measure=>simp[intOf]; omega
    ·have hq:(s == t)=false:=by simpa using hst
     have HD:Hid (D=false):=HS.out hst
     go_wp2_with fail
     go_quiet (fail)
     go_wp2_with fail
     go_ret
     exact⟨by rw[HD.out]; rfl,Below.far HBR.out (below_drew_n _ _)⟩
   ·clear hcx hcy hbr
    have HD:Hid (D=true):=HQ.out HLE.out fun j hj=>HAL.out j (by omega)
    go_wp2_with fail
    go_ret
    exact⟨by rw[HD.out]; rfl,HBR.out⟩
 ·have q0:((x.length:Int) == (y.length:Int))=false:=beq_eq_false_iff_ne.mpr (by omega)
  have q1:((x.length:Int) != (y.length:Int))=true:=by simp only[bne,q0,Bool.not_false]
  clear hcx hcy
  go_enter Tryz.func18,Tryz.ntmps18
  go_wp2_with fail
  go_ret
  exact⟨by rw[HL.out hl]; rfl,Below.refl _ _⟩

end Go.Proofs.YtmdgkjbiicaljahGreatDoor

/- The program's own net.sameKept and net.isPlace. -/
namespace Go.Proofs.YtmdgkjbiicaljahGreatDoor
open Go.RowKit

theorem placeC_any (n : Int) (a : Option Addr) (l c : Nat) (w : World) : Calls Tryz.prog 55 #[.int .i64 n, .slice a l c] w fun e w' => e = .returned (.bool (decide (0 ≤ n) && decide (n < l))) ∧ w' = w := by
 by_cases h1:0≤n
 ·have q1:decide (0≤n)=true:=by simpa using h1
  go_enter Tryz.func55,Tryz.ntmps55
  go_wp2
  go_ret
  exact⟨by rw[q1,Bool.true_and]; rfl,rfl⟩
 ·have q1:decide (0≤n)=false:=by simpa using h1
  rw[q1]
  go_enter Tryz.func55,Tryz.ntmps55
  go_wp2
  go_ret
  exact⟨by simp,rfl⟩
theorem placeR_any (n : Int) (a : Option Addr) (l c : Nat) (w : World) : Calls Tryz.prog 57 #[.int .i64 n, .slice a l c] w fun e w' => e = .returned (.bool (decide (0 ≤ n) && decide (n < l))) ∧ w' = w := by
 by_cases h1:0≤n
 ·have q1:decide (0≤n)=true:=by simpa using h1
  go_enter Tryz.func57,Tryz.ntmps57
  go_wp2
  go_ret
  exact⟨by rw[q1,Bool.true_and]; rfl,rfl⟩
 ·have q1:decide (0≤n)=false:=by simpa using h1
  rw[q1]
  go_enter Tryz.func57,Tryz.ntmps57
  go_wp2
  go_ret
  exact⟨by simp,rfl⟩
theorem placeM_any (n : Int) (a : Option Addr) (l c : Nat) (w : World) : Calls Tryz.prog 65 #[.int .i64 n, .slice a l c] w fun e w' => e = .returned (.bool (decide (0 ≤ n) && decide (n < l))) ∧ w' = w := by
 by_cases h1:0≤n
 ·have q1:decide (0≤n)=true:=by simpa using h1
  go_enter Tryz.func65,Tryz.ntmps65
  go_wp2
  go_ret
  exact⟨by rw[q1,Bool.true_and]; rfl,rfl⟩
 ·have q1:decide (0≤n)=false:=by simpa using h1
  rw[q1]
  go_enter Tryz.func65,Tryz.ntmps65
  go_wp2
  go_ret
  exact⟨by simp,rfl⟩

set_option maxRecDepth 4000 in
set_option maxHeartbeats 2000000 in
theorem sameKept_any (A K : KeptM) (u v : Value) (w : World) (ha : KeptAt w u A) (hk : KeptAt w v K) :
  Calls Tryz.prog 90 #[u,v] w fun e w' => e = .returned (.bool (sameK A K))∧Below w.heap.size w w' := by
 have HS:Hid (sameK A K=(decide (A.view=K.view) && (decide (A.normal=K.normal) && (decide (A.calm=K.calm) && (decide (A.commit=K.commit) && decide (A.log=K.log)))))):=rfl
 generalize sameK A K=X at *
 obtain⟨ul,rfl,hu⟩:=ha
 obtain⟨vl,rfl,hv⟩:=hk
 have HE:Hid (∀ W,Below w.heap.size w W→Calls _ _ _ W _):=fun W hW=>equalStrs_any A.log K.log ul vl W (hu.below hW) (hv.below hW)
 obtain⟨b0,b1,hb⟩:=boxes2 w 44 44 [.int .i64 A.view, .int .i64 A.normal, .bool A.calm,ul, .int .i64 A.commit] [.int .i64 K.view, .int .i64 K.normal, .bool K.calm,vl, .int .i64 K.commit]
 clear hu hv
 obtain⟨x0,x1,x2,x3,x4⟩:=b0.c5
 obtain⟨y0,y1,y2,y3,y4⟩:=b1.c5
 have HB:Hid (Below w.heap.size w _):=hb
 clear b0 b1 hb
 go_enter Tryz.func90,Tryz.ntmps90
 go_upto_region 1 with fail
 by_cases h1:A.view=K.view
 ·have q1:(A.view == K.view)=true:=by simpa using h1
  by_cases h2:A.normal=K.normal
  ·have q2:(A.normal == K.normal)=true:=by simpa using h2
   by_cases h3:A.calm=K.calm
   ·have q3:(A.calm == K.calm)=true:=by simpa using h3
    by_cases h4:A.commit=K.commit
    ·have q4:(A.commit == K.commit)=true:=by simpa using h4
     have HX:Hid (X=decide (A.log=K.log)):=by rw[HS.out,h1,h2,h3,h4]; simp[Hid]
     clear h1 h2 h3 h4 HS
     go_wp2_with fail
     refine (HE.out _ HB.out).mono ?_
     rintro e w2 ⟨rfl,hb2⟩
     have HB2:Hid (Below w.heap.size w w2):=Below.far HB.out hb2
     clear x0 x1 x2 x3 x4 y0 y1 y2 y3 y4 hb2
     go_wp2_with fail
     go_ret
     exact⟨by rw[HX.out]; rfl,HB2.out⟩
    ·have q4:(A.commit == K.commit)=false:=by simpa using h4
     have HX:Hid (X=false):=by rw[HS.out,h1,h2,h3]; simp[Hid,h4]
     clear h1 h2 h3 h4 HS
     go_wp2_with fail
     go_ret
     exact⟨by rw[HX.out]; rfl,HB.out⟩
   ·have q3:(A.calm == K.calm)=false:=by simpa using h3
    have HX:Hid (X=false):=by rw[HS.out,h1,h2]; simp[Hid,h3]
    clear h1 h2 h3 HS
    go_wp2_with fail
    go_ret
    exact⟨by rw[HX.out]; rfl,HB.out⟩
  ·have q2:(A.normal == K.normal)=false:=by simpa using h2
   have HX:Hid (X=false):=by rw[HS.out,h1]; simp[Hid,h2]
   clear h1 h2 HS
   go_wp2_with fail
   go_ret
   exact⟨by rw[HX.out]; rfl,HB.out⟩
 ·have q1:(A.view == K.view)=false:=by simpa using h1
  have HX:Hid (X=false):=by rw[HS.out]; simp[Hid,h1]
  clear h1 HS
  go_wp2_with fail
  go_ret
  exact⟨by rw[HX.out]; rfl,HB.out⟩

end Go.Proofs.YtmdgkjbiicaljahGreatDoor

/- A region that draws its order, by a plan: operations that only read, at any time; such as come one behind another; two of which either comes first; and a tail. -/
namespace Go.Proofs.YtmdgkjbiicaljahGreatDoor
open Go.RowKit

/-- By the phases' numbers: free: whatever their order; line: one behind another, each leaves a world of the class; fork: either comes first; done: the tail. -/
inductive Plan where
 | done (p:Nat)
 | free (p:Nat) (r:Plan)
 | line (p:Nat) (r:Plan)
 | fork (p q:Nat) (r s:Plan)
def planLen (ph : List Nat) : Plan → Nat
 | .done p=>(places ph p 0).length
 | .free p r=>(places ph p 0).length+planLen ph r
 | .line p r=>(places ph p 0).length+planLen ph r
 | .fork _ _ r _=>planLen ph r+1
def planTail : Plan → Nat
 | .done p=>p
 | .free _ r=>planTail r
 | .line _ r=>planTail r
 | .fork _ _ r _=>planTail r
section
variable {P:Program} {Q:Exit→Act→World→Prop} {C:World→Prop}
def wpPlan (P : Program) (l : List Oper) (Q : Exit → Act → World → Prop) (C : World → Prop) (ph : List Nat) : Plan → Act → World → Prop
 | .done p,a,w=>wpList P l.toArray Q (sel ph p l) a w
 | .free p r,a,w=>dstsIn a.tmps.size (sel ph p l)=true ∧ ∃ A:Act,(∀ V,C V→wpQuiet P l.toArray (fun w' => ∃ n,w' = V.drewN n) (fun a' => a' = A) (sel ph p l) a) ∧ ∀ n,wpPlan P l Q C ph r A (w.drewN n)
 | .line p r,a,w=>wpEarly P l.toArray Q C (wpPlan P l Q C ph r) (sel ph p l) a w
 | .fork p q r s,a,w=>wpEarly P l.toArray Q C (wpPlan P l Q C ph r) (sel ph p l) a w∧wpEarly P l.toArray Q C (wpPlan P l Q C ph s) (sel ph q l) a w
theorem wpPlan_done {l : List Oper} {ph : List Nat} {p : Nat} {a : Act} {w : World} (h : wpList P l.toArray Q (sel ph p l) a w) : wpPlan P l Q C ph (.done p) a w := h
theorem wpPlan_free {l : List Oper} {ph : List Nat} {p : Nat} {r : Plan} {a : Act} {w : World} (h0 : dstsIn a.tmps.size (sel ph p l) = true) (h : ∃ A : Act,(∀ V,C V → wpQuiet P l.toArray (fun w' => ∃ n,w' = V.drewN n) (fun a' => a' = A) (sel ph p l) a) ∧ ∀ n,wpPlan P l Q C ph r A (w.drewN n)) : wpPlan P l Q C ph (.free p r) a w := ⟨h0,h⟩
theorem wpPlan_line {l : List Oper} {ph : List Nat} {p : Nat} {r : Plan} {a : Act} {w : World} (h : wpEarly P l.toArray Q C (wpPlan P l Q C ph r) (sel ph p l) a w) : wpPlan P l Q C ph (.line p r) a w := h
theorem wpPlan_fork {l : List Oper} {ph : List Nat} {p q : Nat} {r s : Plan} {a : Act} {w : World} (h1 : wpEarly P l.toArray Q C (wpPlan P l Q C ph r) (sel ph p l) a w) (h2 : wpEarly P l.toArray Q C (wpPlan P l Q C ph s) (sel ph q l) a w) : wpPlan P l Q C ph (.fork p q r s) a w := ⟨h1,h2⟩

def planB (l : List Oper) (ph : List Nat) (tp : Nat) : Plan → Array Bool → Bool
 | .done p,L=>((p == tp) && forcedB l.toArray (places ph p 0) L) && ((Region.ready .any l.toArray (setT L (places ph p 0))).isEmpty && (Region.ready .any l.toArray L).all fun i=>(places ph tp 0).contains i)
 | .free p r,L=>(((!(p == tp)) && (freeI l.toArray (places ph p 0) L && apartI l.toArray (places ph p 0))) &&
   ((List.range l.length).all fun s=>(!(places ph tp 0).contains s) || (places ph p 0).all fun i=>(cover l.toArray s (depsOf l.toArray s)).contains i)) && ((places ph p 0).all (fun i => !(places ph tp 0).contains i) && planB l ph tp r (setT L (places ph p 0)))
 | .line p r,L=>((places ph p 0).all (fun i => !(places ph tp 0).contains i) && forcedB l.toArray (places ph p 0) L) && planB l ph tp r (setT L (places ph p 0))
 | .fork p q r s,L=>(match places ph p 0,places ph q 0 with
   | [i],[j]=>(((Region.ready .any l.toArray L).contains i && (Region.ready .any l.toArray L).contains j) && (Region.ready .any l.toArray L).all fun k=>k == i || k == j) && (((!(places ph tp 0).contains i) && !(places ph tp 0).contains j) && (planB l ph tp r (L.setIfInBounds i true) && (planB l ph tp s (L.setIfInBounds j true) && (planLen ph r == planLen ph s))))
   | _,_=>false)
def planAll (l : List Oper) (ph : List Nat) (p : Plan) : Bool :=
 ((Region.noSelect l.toArray && aftersGo l 0) && decide (planLen ph p≤l.toArray.size)) && planB l ph (planTail p) p (Array.replicate l.toArray.size false)

theorem wpEarly_and {ops : Array Oper} {K : Act → World → Prop} (hn : ∀ V n,C V → C (V.drewN n)) : ∀ (r : List Oper) (a : Act) (w : World),C w → wpEarly P ops Q C K r a w → wpEarly P ops Q C (fun a w => C w ∧ K a w) r a w
 | [],a,w,hc,h=>⟨hc,h⟩
 | o :: r,a,w,hc,h=>by
  have hq : ∀ (o:Oper) a w (K1 K2:Act→World→Prop) (K3:Act→World→Prop),o.wp P a w K1 (onNormal (calmQ Q) K2)→o.wp P a w K1 (onNormal (calmQ Q) K3):=fun o a w K1 K2 K3 h=>by
   unfold Oper.wp at h ⊢
   generalize (execOp a.eval o).run P w=r at h
   cases r with
   | ok n w' => cases n <;> exact h
   | halt x w' => exact h
  have step : ∀ (a2:Act) (w2:World),(C w2 ∧ ∀ m,wpEarly P ops Q C K r a2 (w2.drewN m))→C w2 ∧ ∀ m,wpEarly P ops Q C (fun a w=>C w∧K a w) r a2 (w2.drewN m) :=
   fun a2 w2 h2=>⟨h2.1,fun m=>wpEarly_and hn r a2 _ (hn _ _ h2.1) (h2.2 m)⟩
  simp only[wpEarly,wpList] at h ⊢
  split
  ·rename_i hw
   simp only[hw,if_true] at h
   rcases h with h | h
   ·exact Or.inl (Oper.wp_mono (fun a w h=>step a w h) (hq _ _ _ _ _ _ h))
   ·exact Or.inr ⟨h.1,h.2⟩
  ·rename_i hw
   simp only[hw] at h
   exact step _ _ h
theorem wpEarly_op {ops : Array Oper} {K : Act → World → Prop} {early : Nat → Bool} {i : Nat} {o : Oper} {a : Act} {w : World} (ho : ops[i]? = some o) {K' : Act → World → Prop} (h : wpEarly P ops Q C K [o] a w) (hK : ∀ a2 w2,(C w2 ∧ ∀ m,K a2 (w2.drewN m)) → K' a2 w2) : wpOp P ops (calmQ Q) i K' a w := by
 have hn : ∀ (o:Oper) a w (K1:Act→World→Prop) (K2:Act→World→Prop),o.wp P a w K1 (onNormal (calmQ Q) K2)→o.wp P a w K1 (calmQ Q):=fun o a w K1 K2 h=>by
  unfold Oper.wp at h ⊢
  generalize (execOp a.eval o).run P w=r at h
  cases r with
  | ok n w' => cases n <;> exact h
  | halt x w' => exact h
 simp only[wpEarly,wpList] at h
 unfold wpOp
 simp only[ho]
 split
 ·rename_i hw
  simp only[hw,if_true] at h
  rcases h with h | h
  ·exact Or.inl (Oper.wp_mono (fun a w h=>hK a w h) (hn _ _ _ _ _ h))
  ·exact Or.inr ⟨h.1,h.2⟩
 ·rename_i hw
  simp only[hw] at h
  exact hK _ _ h

theorem wpAnyC_plan {l : List Oper} (hs : Region.noSelect l.toArray = true) (hCn : ∀ V n,C V → C (V.drewN n)) (ph : List Nat) (tp : Nat) : ∀ (p : Plan) (L : Array Bool) (a : Act) (w : World),planB l ph tp p L = true → Closed l.toArray L → C w → wpPlan P l Q C ph p a w →
  wpAnyC P l.toArray Q C (fun i => !(places ph tp 0).contains i) (planLen ph p) L a w
 | .done p,L,a,w,hB,hc,hw,h=>by
  simp only[planB,Bool.and_eq_true,beq_iff_eq] at hB
  obtain⟨⟨rfl,hf⟩,he,hno⟩:=hB
  refine wpAnyC_of_any _ _ _ _ (fun i hi => ?_) ?_
  ·have:=List.all_eq_true.1 hno i hi
   simpa using this
  ·have:=wpAny_odd (K:=Q .normal) (P:=P) (Q:=Q) ph p 0 _ a w hc hf (fun a3 w3 _ hq=>⟨by simpa using he,hq⟩) (by rw[onNormal_self]; exact h)
   simpa [planLen] using this
 | .free p r,L,a,w,hB,hc,hw,h=>by
  simp only[planB,Bool.and_eq_true] at hB
  obtain⟨⟨⟨_,hf,hap⟩,hcv⟩,hear,hB'⟩:=hB
  obtain⟨hin,A,h0,h1⟩:=h
  have sel0:sel ph p l=(places ph p 0).filterMap fun i=>l.toArray[i]? := sel_places ph p 0 l (fun j=>by simp)
  rw[sel0] at h0 hin
  have go : ∀ (is:List Nat) (L:Array Bool),Closed l.toArray L→freeI l.toArray is L=true→Closed l.toArray (setT L is):=by
   intro is
   induction is with
   | nil=>intro L hc _; exact hc
   | cons i is ih =>
    intro L hc hf
    simp only[freeI,Bool.and_eq_true] at hf
    exact ih _ (hc.set (by simpa using hf.1.1)) hf.2
  refine wpAnyC_list (Region.noSelect_spec hs) hCn A _ (places ph p 0) _ a w hw hc hf hap (fun i hi=>List.all_eq_true.1 hear i hi) (fun i hi s hs he => ?_) (fun i hi d hd => ?_) h0 fun n => ?_
  ·have:=List.all_eq_true.1 hcv s (List.mem_range.2 (by simpa using hs))
   rw[he,Bool.false_or] at this
   simpa using List.all_eq_true.1 this i hi
  ·obtain⟨o,ho,hd⟩:=Option.bind_eq_some_iff.1 hd
   have:=List.all_eq_true.1 hin o (List.mem_filterMap.2 ⟨i,hi,ho⟩)
   rw[hd] at this
   simpa using this
  ·exact wpAnyC_plan hs hCn ph tp r _ A _ hB' (go _ _ hc hf) (hCn _ _ hw) (h1 n)
 | .line p r,L,a,w,hB,hc,hw,h=>by
  simp only[planB,Bool.and_eq_true] at hB
  obtain⟨⟨hear,hf⟩,hB'⟩:=hB
  have sel0:sel ph p l=(places ph p 0).filterMap fun i=>l.toArray[i]? := sel_places ph p 0 l (fun j=>by simp)
  have h2:=wpEarly_and hCn _ _ _ hw (show wpEarly P l.toArray Q C (wpPlan P l Q C ph r) (sel ph p l) a w from h)
  rw[sel0] at h2
  exact wpAnyC_early (planLen ph r) (places ph p 0) L a w hc hf (fun i hi=>List.all_eq_true.1 hear i hi) (fun a2 w2 hc2 hk=>wpAnyC_plan hs hCn ph tp r _ a2 w2 hB' hc2 hk.1 hk.2) h2
 | .fork p q r s,L,a,w,hB,hc,hw,h=>by
  simp only[planB] at hB
  split at hB
  ·rename_i i j ei ej
   simp only[Bool.and_eq_true,beq_iff_eq] at hB
   obtain⟨⟨⟨hi,hj⟩,hall⟩,⟨ti,tj⟩,hr,hs',hlen⟩:=hB
   have hi:i ∈ Region.ready .any l.toArray L:=by simpa using hi
   have hj:j ∈ Region.ready .any l.toArray L:=by simpa using hj
   obtain⟨_,oi,hoi,_⟩:=mem_ready.1 hi
   obtain⟨_,oj,hoj,_⟩:=mem_ready.1 hj
   have selp:sel ph p l = [oi]:=by rw[sel_places ph p 0 l (ops:=l.toArray) (fun j=>by simp),ei,List.filterMap_cons,hoi]; rfl
   have selq:sel ph q l = [oj]:=by rw[sel_places ph q 0 l (ops:=l.toArray) (fun j=>by simp),ej,List.filterMap_cons,hoj]; rfl
   obtain⟨h1,h2⟩:=h
   rw[selp] at h1
   rw[selq] at h2
   refine⟨fun e=>(by rw[e] at hi; cases hi),fun k hk => ?_⟩
   have hk' := List.all_eq_true.1 hall k hk
   simp only[Bool.or_eq_true,beq_iff_eq] at hk'
   rcases hk' with rfl | rfl
   ·rw[if_pos ti]
    exact wpEarly_op (early:=fun _=>true) hoi h1 fun a2 w2 h3=>⟨h3.1,fun n=>wpAnyC_plan hs hCn ph tp r _ a2 _ hr (hc.set hi) (hCn _ _ h3.1) (h3.2 n)⟩
   ·rw[if_pos tj]
    exact wpEarly_op (early:=fun _=>true) hoj h2 fun a2 w2 h3=>⟨h3.1,fun n=>by
     have:=wpAnyC_plan hs hCn ph tp s _ a2 _ hs' (hc.set hj) (hCn _ _ h3.1) (h3.2 n)
     rw[← hlen] at this
     exact this⟩
  ·cases hB
theorem wp_region_plan {id : Nat} {a : Act} {w : World} {l : List Oper} (ph : List Nat) (p : Plan) (hm : P.follows .mixedOrders = true) (hB : planAll l ph p = true) (hl : LetsOut (calmQ Q) → LetsOut Q)
  (C:World→Prop) (hC:C w) (hCn : ∀ V n,C V→C (V.drewN n)) (h : ∀ n,wpPlan P l Q C ph p a (w.drewN n)):(Code.region id l.toArray true).wp P Q a w:=by
 simp only[planAll,Bool.and_eq_true,decide_eq_true_eq] at hB
 obtain⟨⟨⟨hs,hev⟩,hlen⟩,hB⟩:=hB
 refine wp_region_any hm (wpAny_up hlen (wpAny_of_C hl (C:=C) (early:=fun i => !(places ph (planTail p) 0).contains i) _ _ _ _ ?_))
 exact wpAnyC_plan hs hCn ph _ p _ a _ hB (closed_start l) (hCn w 1 hC) (h 1)
end

end Go.Proofs.YtmdgkjbiicaljahGreatDoor

/- The plain mathematics of package replica: replicas, messages, and what comes of them. -/
import Derived.Test.YtmdgkjbiicaljahGreatDoorJointStageMath
set_option linter.unusedVariables false
set_option linter.unusedSimpArgs false
namespace Go.Proofs.YtmdgkjbiicaljahGreatDoor

structure ReplM where
  me : Int
  kept : KeptM
  hav : List Int
  wants : List Bool
  gives : List KeptM
  given : List Bool
structure MsgM where
  kind : Int
  frm : Int
  dst : Int
  view : Int
  normal : Int
  commit : Int
  n : Int
  log : List (List UInt8)

def zeroRepl : ReplM := ⟨0, zeroKept, [], [], [], []⟩

/-- P5.1 -/
def forgot (r : ReplM) : ReplM := ⟨r.me, r.kept, [0, 0, 0], [false, false, false], [zeroKept, zeroKept, zeroKept], [false, false, false]⟩
def newrE (me : Int) (k : KeptM) : Int := if 0 ≤ me ∧ me ≤ 2 then keptFault k else 2
def newrR (me : Int) (k : KeptM) : ReplM := if newrE me k = 0 then forgot ⟨me, k, [], [], [], []⟩ else zeroRepl
def fours (r : ReplM) : Bool := (r.hav.length == 3 && r.wants.length == 3) && (r.gives.length == 3 && r.given.length == 3)
def knowsIn (r : ReplM) : Bool := r.hav.all (fun x => decide (0 ≤ x) && decide (x ≤ r.kept.log.length)) && r.gives.all (fun k => decide (keptFault k = 0))
def replFault (r : ReplM) : Int := if 0 ≤ r.me ∧ r.me ≤ 2 then (if (fours r && knowsIn r) = true then keptFault r.kept else 8) else 2

/-- P5.2 -/
def leads (r : ReplM) : Bool := r.kept.calm && decide (r.kept.view.tmod 3 = r.me)

/-- P5.3 -/
def isHW (m : MsgM) : Bool := decide (m.kind = 2) || decide (m.kind = 3)
def isHG (m : MsgM) : Bool := decide (m.kind = 2) || decide (m.kind = 4)
def msgKept (m : MsgM) : KeptM := ⟨m.view, m.normal, false, m.log, m.commit⟩
def msgRange (m : MsgM) : Bool := ((decide (0 ≤ m.frm) && decide (m.frm ≤ 2)) && (decide (0 ≤ m.dst) && decide (m.dst ≤ 2))) && (decide (m.frm ≠ m.dst) && ((decide (0 ≤ m.view) && decide (m.view ≤ 1048576)) && (decide (0 ≤ m.n) && decide (m.n ≤ 60))))
def msgForm (m : MsgM) : Bool :=
  !((decide (m.kind ≠ 4) && decide (m.normal ≠ 0)) || (decide (m.kind ≠ 2) && decide (m.n ≠ 0))) &&
  (!(isHW m && (decide (m.commit ≠ 0) || decide (m.log.length ≠ 0))) &&
   !((decide (m.kind = 1) && decide (m.frm ≠ m.view.tmod 3)) || (isHG m && decide (m.dst ≠ m.view.tmod 3))))
def msgFault (m : MsgM) : Int :=
  if 1 ≤ m.kind ∧ m.kind ≤ 4 then (if msgRange m = true then (if msgForm m = true then keptFault (msgKept m) else 4) else 2) else 3

/-- What is sent to all others. -/
def others (me : Int) : List Int := [0, 1, 2].filter (fun i => decide (i ≠ me))
def toAll (r : ReplM) (kind commit : Int) (log : List (List UInt8)) : List MsgM := (others r.me).map fun i => ⟨kind, r.me, i, r.kept.view, 0, commit, 0, log⟩
def ledBy (r : ReplM) : List MsgM := toAll r 1 r.kept.commit r.kept.log

/-- P5.5 -/
def wantR (r : ReplM) (view : Int) : ReplM :=
  ⟨r.me, ⟨view, r.kept.normal, false, r.kept.log, r.kept.commit⟩, [0, 0, 0], [false, false, false].set r.me.toNat true, [zeroKept, zeroKept, zeroKept], [false, false, false]⟩
def wantL (r : ReplM) (view : Int) : List MsgM := toAll (wantR r view) 3 0 []

/-- P5.7: of what is given, one behind another: how many; the place of the best one (-1: none); the greatest commit. -/
structure Best where
  many : Int
  at_ : Int
  commit : Int
def better (r : ReplM) (b : Best) (i : Nat) : Bool :=
  decide (b.at_ < 0) || (decide ((r.gives.getD b.at_.toNat zeroKept).normal < (r.gives.getD i zeroKept).normal) ||
    (decide ((r.gives.getD i zeroKept).normal = (r.gives.getD b.at_.toNat zeroKept).normal) && decide ((r.gives.getD b.at_.toNat zeroKept).log.length < (r.gives.getD i zeroKept).log.length)))
def bestStep (r : ReplM) (b : Best) (i : Nat) : Best :=
  if r.given.getD i false = true then ⟨b.many + 1, if better r b i = true then i else b.at_, if b.commit < (r.gives.getD i zeroKept).commit then (r.gives.getD i zeroKept).commit else b.commit⟩ else b
def bestTo (r : ReplM) : Nat → Best
  | 0 => ⟨0, -1, 0⟩
  | k + 1 => bestStep r (bestTo r k) k
def begins (r : ReplM) : Bool := decide (2 ≤ (bestTo r 3).many) && r.given.getD r.me.toNat false
def bestLog (r : ReplM) : List (List UInt8) := (r.gives.getD (bestTo r 3).at_.toNat zeroKept).log
def beginR (r : ReplM) : ReplM :=
  if begins r = true then forgot ⟨r.me, ⟨r.kept.view, r.kept.view, true, bestLog r, min (bestTo r 3).commit (bestLog r).length⟩, [], [], [], []⟩ else r
def beginL (r : ReplM) : List MsgM := if begins r = true then ledBy (beginR r) else []

/-- What a replica gives. -/
def ownK (r : ReplM) : KeptM := ⟨r.kept.view, r.kept.normal, false, r.kept.log, r.kept.commit⟩
def withGive (r : ReplM) (i : Nat) (k : KeptM) : ReplM := ⟨r.me, r.kept, r.hav, r.wants, r.gives.set i k, r.given.set i true⟩

/-- P5.4: a Lead. -/
def leadK (k : KeptM) (m : MsgM) : KeptM :=
  let k1 : KeptM := if m.view > k.view ∨ k.calm = false then ⟨m.view, m.view, true, m.log, min k.commit m.log.length⟩
    else if m.log.length > k.log.length then ⟨k.view, k.normal, k.calm, m.log, k.commit⟩ else k
  ⟨k1.view, k1.normal, k1.calm, k1.log, max k1.commit (min m.commit k1.log.length)⟩
def leadR (r : ReplM) (m : MsgM) : ReplM :=
  if m.view > r.kept.view ∨ r.kept.calm = false then forgot ⟨r.me, leadK r.kept m, [], [], [], []⟩ else ⟨r.me, leadK r.kept m, r.hav, r.wants, r.gives, r.given⟩
def hasMsg (r : ReplM) (to : Int) : MsgM := ⟨2, r.me, to, r.kept.view, 0, 0, r.kept.log.length, []⟩

/-- P5.6: a Has. -/
def hasR (r : ReplM) (m : MsgM) : ReplM :=
  if m.view = r.kept.view ∧ leads r = true then
    ⟨r.me, ⟨r.kept.view, r.kept.normal, r.kept.calm, r.kept.log, max r.kept.commit (min m.n r.kept.log.length)⟩, r.hav.set m.frm.toNat (max (r.hav.getD m.frm.toNat 0) (min m.n r.kept.log.length)), r.wants, r.gives, r.given⟩
  else r
def hasL (r : ReplM) (m : MsgM) : List MsgM :=
  if m.view = r.kept.view ∧ leads r = true then (if r.kept.commit < min m.n r.kept.log.length then ledBy (hasR r m) else []) else []

/-- P5.5: a Want, behind the wish for its view. -/
def wantedR (r : ReplM) (m : MsgM) : ReplM :=
  if r.kept.calm = true ∨ r.wants.getD m.frm.toNat false = true then r
  else
    let r1 : ReplM := ⟨r.me, r.kept, r.hav, r.wants.set m.frm.toNat true, r.gives, r.given⟩
    if r.kept.view.tmod 3 = r.me then beginR (withGive r1 r.me.toNat (ownK r1)) else r1
def wantedL (r : ReplM) (m : MsgM) : List MsgM :=
  if r.kept.calm = true ∨ r.wants.getD m.frm.toNat false = true then []
  else
    let r1 : ReplM := ⟨r.me, r.kept, r.hav, r.wants.set m.frm.toNat true, r.gives, r.given⟩
    if r.kept.view.tmod 3 = r.me then beginL (withGive r1 r.me.toNat (ownK r1))
    else [⟨4, r.me, r.kept.view.tmod 3, r.kept.view, r.kept.normal, r.kept.commit, 0, r.kept.log⟩]

/-- P5.7: a Give, behind the wish for its view. -/
def gaveR (r : ReplM) (m : MsgM) : ReplM :=
  if r.given.getD r.me.toNat false = true then withGive r m.frm.toNat (msgKept m) else withGive (withGive r r.me.toNat (ownK r)) m.frm.toNat (msgKept m)
def giveR (r : ReplM) (m : MsgM) : ReplM := if r.kept.calm = true then r else beginR (gaveR r m)
def giveL (r : ReplM) (m : MsgM) : List MsgM := if r.kept.calm = true then [] else beginL (gaveR r m)

/-- P5.4 to P5.7 -/
def wishes (r : ReplM) (m : MsgM) : Bool := (decide (m.kind = 3) || decide (m.kind = 4)) && decide (r.kept.view < m.view)
def wishR (r : ReplM) (m : MsgM) : ReplM := if wishes r m = true then wantR r m.view else r
def wishL (r : ReplM) (m : MsgM) : List MsgM := if wishes r m = true then wantL r m.view else []
def hearR' (r : ReplM) (m : MsgM) : ReplM :=
  if m.kind = 1 then leadR r m else if m.kind = 2 then hasR r m else if m.kind = 3 then wantedR (wishR r m) m else giveR (wishR r m) m
def hearL' (r : ReplM) (m : MsgM) : List MsgM :=
  if m.kind = 1 then [hasMsg (leadR r m) m.frm] else if m.kind = 2 then hasL r m else if m.kind = 3 then wishL r m ++ wantedL (wishR r m) m else wishL r m ++ giveL (wishR r m) m
def hearE (r : ReplM) (m : MsgM) : Int :=
  if replFault r ≠ 0 then replFault r else if msgFault m ≠ 0 then msgFault m else if m.dst ≠ r.me then 6 else if m.view < r.kept.view then 9 else 0
def hearR (r : ReplM) (m : MsgM) : ReplM := if hearE r m = 0 then hearR' r m else zeroRepl
def hearL (r : ReplM) (m : MsgM) : List MsgM := if hearE r m = 0 then hearL' r m else []

/-- P5.8 -/
def takeE (r : ReplM) (s : List UInt8) : Int :=
  if replFault r ≠ 0 then replFault r else if leads r = false then 14 else if 60 ≤ r.kept.log.length then 7 else decE s
def takeR' (r : ReplM) (s : List UInt8) : ReplM := ⟨r.me, ⟨r.kept.view, r.kept.normal, r.kept.calm, r.kept.log ++ [s], r.kept.commit⟩, r.hav, r.wants, r.gives, r.given⟩
def takeR (r : ReplM) (s : List UInt8) : ReplM := if takeE r s = 0 then takeR' r s else zeroRepl
def takeL (r : ReplM) (s : List UInt8) : List MsgM := if takeE r s = 0 then ledBy (takeR' r s) else []

/-- P5.9 -/
def tickE (r : ReplM) : Int := replFault r
def tickR' (r : ReplM) : ReplM := if r.kept.calm = true then r else ⟨r.me, r.kept, r.hav, r.wants.set r.me.toNat true, r.gives, r.given⟩
def tickL' (r : ReplM) : List MsgM := if leads r = true then ledBy r else if r.kept.calm = true then [hasMsg r (r.kept.view.tmod 3)] else toAll r 3 0 []
def tickR (r : ReplM) : ReplM := if tickE r = 0 then tickR' r else zeroRepl
def tickL (r : ReplM) : List MsgM := if tickE r = 0 then tickL' r else []
def alarmE (r : ReplM) : Int := if replFault r ≠ 0 then replFault r else if 1048576 ≤ r.kept.view then 7 else 0
def alarmR (r : ReplM) : ReplM := if alarmE r = 0 then wantR r (r.kept.view + 1) else zeroRepl
def alarmL (r : ReplM) : List MsgM := if alarmE r = 0 then wantL r (r.kept.view + 1) else []

end Go.Proofs.YtmdgkjbiicaljahGreatDoor

/- The plain mathematics of the protocol: what is committed is the same wherever it is, and stays. Ghosts: the log of each view (cur), with which it began (start), who was in order in it (was), and how much of it was there (vouch). -/
namespace Go.Proofs.YtmdgkjbiicaljahGreatDoor

abbrev Ent := List UInt8
structure Ghost where
 cur:Int→List Ent
 start:Int→List Ent
 was:Nat→Int→Bool
 vouch:Nat→Int→Nat
def ldr (v : Int) : Nat := (v % 3).toNat
def upd {α : Type} (f : Nat → α) (i : Nat) (x : α) : Nat → α := fun j => if j = i then x else f j
theorem upd_self {α : Type} (f : Nat → α) (i : Nat) (x : α) : upd f i x i = x := if_pos rfl
theorem upd_ne {α : Type} (f : Nat → α) (i : Nat) (x : α) {j : Nat} (h : j ≠ i) : upd f i x j = f j := if_neg h

/-- Committed, in a view up to n. -/
def Cat (g : Ghost) (n : Int) (p : List Ent) : Prop :=
 ∃ u,u≤n ∧ ∃ i j,i < 3∧j < 3∧i≠j∧g.was i u=true∧g.was j u=true∧p <+: (g.cur u).take (min (g.vouch i u) (g.vouch j u))
theorem Cat.mono {g : Ghost} {n m : Int} {p : List Ent} (h : Cat g n p) (hn : n ≤ m) : Cat g m p := by
 obtain⟨u,hu,r⟩:=h
 exact⟨u,by omega,r⟩
theorem Cat.pre {g : Ghost} {n : Int} {p q : List Ent} (h : Cat g n p) (hq : q <+: p) : Cat g n q := by
 obtain⟨u,hu,i,j,h1,h2,h3,h4,h5,h6⟩:=h
 exact⟨u,hu,i,j,h1,h2,h3,h4,h5,hq.trans h6⟩

/-- How much of a view's log a replica may still vouch for. -/
def pot (g : Ghost) (k : Nat → KeptM) (i : Nat) (v : Int) : Nat :=
 if v < (k i).view then (if g.was i v=true then g.vouch i v else 0) else (g.cur v).length

structure GiveOk (g : Ghost) (k : Nat → KeptM) (j : Nat) (v : Int) (x : KeptM) : Prop where
 view:v≤(k j).view
 old:x.normal < v
 was:g.was j x.normal=true
 gap : ∀ u,x.normal < u→u < v→g.was j u=false
 log:x.log=(g.cur x.normal).take (g.vouch j x.normal)
 c0:0≤x.commit
 c1:x.commit≤x.log.length
 cat:Cat g x.normal (x.log.take x.commit.toNat)

structure LeadOk (g : Ghost) (m : MsgM) : Prop where
 was:g.was (ldr m.view) m.view=true
 pre:m.log <+: g.cur m.view
 start:(g.start m.view).length≤m.log.length
 c0:0≤m.commit
 c1:m.commit≤m.log.length
 cat:Cat g m.view (m.log.take m.commit.toNat)

structure MsgOk (g : Ghost) (k : Nat → KeptM) (m : MsgM) : Prop where
 lead:m.kind=1→LeadOk g m
 has:m.kind=2 → ∃ i:Nat,i < 3∧m.frm=(i:Int)∧g.was i m.view=true∧m.n≤g.vouch i m.view
 give:m.kind=4 → ∃ i:Nat,i < 3∧m.frm=(i:Int)∧GiveOk g k i m.view (msgKept m)

/-- What holds of one replica. -/
structure OneOk (g : Ghost) (i : Nat) (K : KeptM) : Prop where
 n0:0≤K.normal
 nv:K.normal≤K.view
 calm:K.calm=true→K.normal=K.view
 uncalm:K.calm=false→K.normal < K.view
 was:g.was i K.normal=true
 log:K.log=(g.cur K.normal).take (g.vouch i K.normal)
 c0:0≤K.commit
 c1:K.commit≤K.log.length
 cat:Cat g K.normal (K.log.take K.commit.toNat)
 top : ∀ v,g.was i v=true→v≤K.normal

structure GhostOk (g : Ghost) : Prop where
 zero : ∀ i,i < 3→g.was i 0=true
 low : ∀ i v,i < 3→g.was i v=true→0≤v∧(g.start v).length≤g.vouch i v∧g.vouch i v≤(g.cur v).length∧g.was (ldr v) v=true
 pre : ∀ v,g.start v <+: g.cur v
 lead : ∀ v,g.was (ldr v) v=true→g.vouch (ldr v) v=(g.cur v).length
 none : ∀ v,g.was (ldr v) v=false→g.cur v = []

structure Inv (g : Ghost) (k : Nat → KeptM) (gv : Nat → Nat → Option KeptM) (M : List MsgM) : Prop where
 gh:GhostOk g
 one : ∀ i,i < 3→OneOk g i (k i)
 two : ∀ w,g.was (ldr w) w=true → ∀ i j,i < 3→j < 3→i≠j→w≤(k i).view∨w≤(k j).view
 all : ∀ w v,g.was (ldr w) w=true→v < w → ∀ i j,i < 3→j < 3→i≠j→(g.cur v).take (min (pot g k i v) (pot g k j v)) <+: g.start w
 msgs : ∀ m ∈ M,MsgOk g k m
 gives : ∀ i,i < 3→(k i).calm=false → ∀ j x,j < 3→gv i j=some x→GiveOk g k j (k i).view x
 own : ∀ i,i < 3→(k i).calm=false → ∀ x,gv i i=some x→x.commit=(k i).commit

/-- Ghosts only grow. -/
structure Ext (g g' : Ghost) : Prop where
 was : ∀ i v,g.was i v=true→g'.was i v=true
 cur : ∀ v,g.cur v <+: g'.cur v
 vouch : ∀ i v,g.was i v=true→g.vouch i v≤g'.vouch i v
 start : ∀ v,g.was (ldr v) v=true→g'.start v=g.start v
theorem Ext.refl (g : Ghost) : Ext g g := ⟨fun _ _ h => h,fun _ => List.prefix_rfl,fun _ _ _ => Nat.le_refl _,fun _ _ => rfl⟩
theorem Ext.trans {a b c : Ghost} (h : Ext a b) (h' : Ext b c) : Ext a c :=
 ⟨fun i v x=>h'.was i v (h.was i v x),fun v=>(h.cur v).trans (h'.cur v),fun i v x=>Nat.le_trans (h.vouch i v x) (h'.vouch i v (h.was i v x)),fun v x=>(h'.start v (h.was _ v x)).trans (h.start v x)⟩

theorem take_prefix_of_le {l : List Ent} {a b : Nat} (h : a ≤ b) : l.take a <+: l.take b := by
 have:=List.take_prefix a (l.take b)
 rwa [List.take_take,Nat.min_eq_left h] at this
theorem take_of_prefix {l l' : List Ent} (h : l <+: l') {n : Nat} (hn : n ≤ l.length) : l'.take n = l.take n := by
 obtain⟨t,rfl⟩:=h
 exact List.take_append_of_le_length hn
theorem take_len_of_prefix {l l' : List Ent} (h : l <+: l') : l'.take l.length = l := by
 rw[take_of_prefix h (Nat.le_refl _),List.take_length]

theorem cat_ext {g g' : Ghost} {n : Int} {p : List Ent} (ho : GhostOk g) (he : Ext g g') (h : Cat g n p) : Cat g' n p := by
 obtain⟨u,hu,i,j,h1,h2,h3,h4,h5,h6⟩:=h
 refine⟨u,hu,i,j,h1,h2,h3,he.was _ _ h4,he.was _ _ h5,h6.trans ?_⟩
 have a:=he.vouch i u h4
 have b:=he.vouch j u h5
 have c:=(ho.low i u h1 h4).2.2.1
 have d:=he.cur u
 rw[← take_of_prefix d (by omega)]
 exact take_prefix_of_le (by omega)

theorem vouch_pot {g : Ghost} (ho : GhostOk g) (k : Nat → KeptM) {i : Nat} {u : Int} (hi : i < 3) (h : g.was i u = true) : g.vouch i u ≤ pot g k i u := by
 have:=(ho.low i u hi h).2.2.1
 unfold pot
 rw[if_pos h]
 split
 ·exact Nat.le_refl _
 ·exact this

/-- What a step of the whole does to ghosts and views. -/
structure Moves (g g' : Ghost) (k k' : Nat → KeptM) : Prop where
 ext:Ext g g'
 view : ∀ j,j < 3→(k j).view≤(k' j).view
 frozen : ∀ j u,j < 3→u < (k j).view→g'.was j u=g.was j u∧g'.vouch j u=g.vouch j u

theorem GiveOk.move {g g' : Ghost} {k k' : Nat → KeptM} {j : Nat} {v : Int} {x : KeptM} (ho : GhostOk g) (hj : j < 3) (hm : Moves g g' k k') (h : GiveOk g k j v x) : GiveOk g' k' j v x := by
 have hx:x.normal < (k j).view:=by have:=h.old; have:=h.view; omega
 obtain⟨f1,f2⟩:=hm.frozen j x.normal hj hx
 refine⟨by have:=h.view; have:=hm.view j hj; omega,h.old,hm.ext.was _ _ h.was,fun u h1 h2 => ?_, ?_,h.c0,h.c1,cat_ext ho hm.ext h.cat⟩
 ·rw[(hm.frozen j u hj (by have:=h.view; omega)).1]
  exact h.gap u h1 h2
 ·rw[f2,take_of_prefix (hm.ext.cur _) (ho.low j _ hj h.was).2.2.1]
  exact h.log

theorem LeadOk.ext {g g' : Ghost} {m : MsgM} (ho : GhostOk g) (he : Ext g g') (h : LeadOk g m) : LeadOk g' m :=
 ⟨he.was _ _ h.was,h.pre.trans (he.cur _),by rw[he.start _ h.was]; exact h.start,h.c0,h.c1,cat_ext ho he h.cat⟩

theorem MsgOk.move {g g' : Ghost} {k k' : Nat → KeptM} {m : MsgM} (ho : GhostOk g) (hm : Moves g g' k k') (h : MsgOk g k m) : MsgOk g' k' m := by
 refine⟨fun e=>(h.lead e).ext ho hm.ext,fun e => ?_,fun e => ?_⟩
 ·obtain⟨i,hi,hf,h1,h2⟩:=h.has e
  have:=hm.ext.vouch i _ h1
  exact⟨i,hi,hf,hm.ext.was _ _ h1,by omega⟩
 ·obtain⟨i,hi,hf,h1⟩:=h.give e
  exact⟨i,hi,hf,h1.move ho hi hm⟩

theorem OneOk.ext {g g' : Ghost} {i : Nat} {K : KeptM} (hi : i < 3) (ho : GhostOk g) (he : Ext g g') (h : OneOk g i K) (h1 : g'.vouch i K.normal = g.vouch i K.normal) (h2 : ∀ v,g'.was i v = g.was i v) : OneOk g' i K := by
 refine⟨h.n0,h.nv,h.calm,h.uncalm,he.was _ _ h.was, ?_,h.c0,h.c1,cat_ext ho he h.cat,fun v hv=>h.top v (by rw[← h2]; exact hv)⟩
 rw[h1,take_of_prefix (he.cur _) (ho.low i _ hi h.was).2.2.1]
 exact h.log

/-- For views that had begun, what 'all' says stays. -/
theorem all_move {g g' : Ghost} {k k' : Nat → KeptM} {gv : Nat → Nat → Option KeptM} {M : List MsgM} (hI : Inv g k gv M) (hm : Moves g g' k k') (w v : Int) (hw : g.was (ldr w) w = true) (hv : v < w) (i j : Nat) (hi : i < 3) (hj : j < 3) (hij : i ≠ j) :
  (g'.cur v).take (min (pot g' k' i v) (pot g' k' j v)) <+: g'.start w:=by
 rw[hm.ext.start w hw]
 refine List.IsPrefix.trans ?_ (hI.all w v hw hv i j hi hj hij)
 have key : ∀ a b,a < 3→b < 3→v < (k a).view→pot g' k' a v=pot g k a v∧min (pot g' k' a v) (pot g' k' b v)≤min (pot g k a v) (pot g k b v)∧pot g k a v≤(g.cur v).length:=by
  intro a b ha hb hva
  obtain⟨f1,f2⟩:=hm.frozen a v ha hva
  have hva' : v < (k' a).view:=by have:=hm.view a ha; omega
  have e1:pot g' k' a v=pot g k a v:=by unfold pot; rw[if_pos hva,if_pos hva',f1,f2]
  have l1:pot g k a v≤(g.cur v).length:=by
   unfold pot
   rw[if_pos hva]
   split
   ·rename_i hw; exact (hI.gh.low a v ha hw).2.2.1
   ·omega
  refine⟨e1, ?_,l1⟩
  by_cases hvb:v < (k b).view
  ·obtain⟨f3,f4⟩:=hm.frozen b v hb hvb
   have hvb' : v < (k' b).view:=by have:=hm.view b hb; omega
   have e2:pot g' k' b v=pot g k b v:=by unfold pot; rw[if_pos hvb,if_pos hvb',f3,f4]
   rw[e1,e2]
   exact Nat.le_refl _
  ·have e2:pot g k b v=(g.cur v).length:=by unfold pot; rw[if_neg hvb]
   rw[e1,e2]
   omega
 have fin : ∀ m n:Nat,m≤n→n≤(g.cur v).length→(g'.cur v).take m <+: (g.cur v).take n:=fun m n hmn hn=>by
  rw[take_of_prefix (hm.ext.cur v) (by omega)]
  exact take_prefix_of_le hmn
 rcases hI.two w hw i j hi hj hij with h | h
 ·obtain⟨_,h2,h3⟩:=key i j hi hj (by omega)
  exact fin _ _ h2 (by omega)
 ·obtain⟨_,h2,h3⟩:=key j i hj hi (by omega)
  rw[Nat.min_comm,Nat.min_comm (pot g k i v)]
  exact fin _ _ h2 (by omega)

/-- One replica's step: what it owes. -/
theorem Inv.step {g g' : Ghost} {k : Nat → KeptM} {gv : Nat → Nat → Option KeptM} {M : List MsgM} (hI : Inv g k gv M) (i0 : Nat) (h0 : i0 < 3) (K' : KeptM) (G' : Nat → Option KeptM)
  (hm:Moves g g' k (upd k i0 K')) (hg:GhostOk g') (hone:OneOk g' i0 K')
  (hoth : ∀ j,j < 3→j≠i0→g'.vouch j (k j).normal=g.vouch j (k j).normal ∧ ∀ v,g'.was j v=g.was j v)
  (hnew : ∀ w,g'.was (ldr w) w=true→g.was (ldr w) w=false →
   (∀ i j,i < 3→j < 3→i≠j→w≤(upd k i0 K' i).view∨w≤(upd k i0 K' j).view) ∧
   ∀ v,v < w → ∀ i j,i < 3→j < 3→i≠j→(g'.cur v).take (min (pot g' (upd k i0 K') i v) (pot g' (upd k i0 K') j v)) <+: g'.start w)
  (hgiv:K'.calm=false → ∀ j x,j < 3→G' j=some x→GiveOk g' (upd k i0 K') j K'.view x)
  (hown:K'.calm=false → ∀ x,G' i0=some x→x.commit=K'.commit) :
  Inv g' (upd k i0 K') (upd gv i0 G') M:=by
 refine⟨hg,fun i hi => ?_,fun w hw i j hi hj hij => ?_,fun w v hw hv i j hi hj hij => ?_,fun m hmM=>(hI.msgs m hmM).move hI.gh hm,fun i hi hc j x hj hx => ?_,fun i hi hc x hx => ?_⟩
 ·by_cases e:i=i0
  ·subst e; rw[upd_self]; exact hone
  ·rw[upd_ne _ _ _ e]
   exact (hI.one i hi).ext hi hI.gh hm.ext (hoth i hi e).1 (hoth i hi e).2
 ·by_cases e:g.was (ldr w) w=true
  ·rcases hI.two w e i j hi hj hij with h | h
   ·exact Or.inl (Int.le_trans h (hm.view i hi))
   ·exact Or.inr (Int.le_trans h (hm.view j hj))
  ·exact (hnew w hw (by simpa using e)).1 i j hi hj hij
 ·by_cases e:g.was (ldr w) w=true
  ·exact all_move hI hm w v e hv i j hi hj hij
  ·exact (hnew w hw (by simpa using e)).2 v hv i j hi hj hij
 ·by_cases e:i=i0
  ·subst e
   rw[upd_self] at hc ⊢
   rw[upd_self] at hx
   exact hgiv hc j x hj hx
  ·rw[upd_ne _ _ _ e] at hc ⊢
   rw[upd_ne _ _ _ e] at hx
   exact (hI.gives i hi hc j x hj hx).move hI.gh hj hm
 ·by_cases e:i=i0
  ·subst e
   rw[upd_self] at hc ⊢
   rw[upd_self] at hx
   exact hown hc x hx
  ·rw[upd_ne _ _ _ e] at hc ⊢
   rw[upd_ne _ _ _ e] at hx
   exact hI.own i hi hc x hx

/-- A step that leaves the ghosts as they are. -/
theorem Inv.stay {g : Ghost} {k : Nat → KeptM} {gv : Nat → Nat → Option KeptM} {M : List MsgM} (hI : Inv g k gv M) (i0 : Nat) (h0 : i0 < 3) (K' : KeptM) (G' : Nat → Option KeptM)
  (hv:(k i0).view≤K'.view) (hone:OneOk g i0 K')
  (hgiv:K'.calm=false → ∀ j x,j < 3→G' j=some x→GiveOk g (upd k i0 K') j K'.view x)
  (hown:K'.calm=false → ∀ x,G' i0=some x→x.commit=K'.commit):Inv g (upd k i0 K') (upd gv i0 G') M:=by
 refine hI.step i0 h0 K' G' ⟨Ext.refl g,fun j hj => ?_,fun j u _ _=>⟨rfl,rfl⟩⟩ hI.gh hone (fun j _ _=>⟨rfl,fun _=>rfl⟩) (fun w h1 h2=>by rw[h1] at h2; cases h2) hgiv hown
 by_cases e:j=i0
 ·subst e; rw[upd_self]; exact hv
 ·rw[upd_ne _ _ _ e]; exact Int.le_refl _

end Go.Proofs.YtmdgkjbiicaljahGreatDoor

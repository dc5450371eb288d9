/- The plain mathematics of package replica: replicas, messages, and what comes of them. -/
import Derived.Test.YtmdgkjbiicaljagDoorStageMath
namespace Go.Proofs.YtmdgkjbiicaljagDoor
set_option linter.unusedVariables false

structure ReplM where
  me : Int
  kept : KeptM
  hav : List Int
  wants : List Bool
  gives : List KeptM
  given : List Bool
structure MsgM where
  kind : Int
  frm : Int
  dst : Int
  view : Int
  normal : Int
  commit : Int
  n : Int
  log : List (List UInt8)

def zeroRepl : ReplM := ⟨0, zeroKept, [], [], [], []⟩

/-- P5.1 -/
def forgot (r : ReplM) : ReplM := ⟨r.me, r.kept, [0, 0, 0], [false, false, false], [zeroKept, zeroKept, zeroKept], [false, false, false]⟩
def newrE (me : Int) (k : KeptM) : Int := if 0 ≤ me ∧ me ≤ 2 then keptFault k else 2
def newrR (me : Int) (k : KeptM) : ReplM := if newrE me k = 0 then forgot ⟨me, k, [], [], [], []⟩ else zeroRepl
def fours (r : ReplM) : Bool := (r.hav.length == 3 && r.wants.length == 3) && (r.gives.length == 3 && r.given.length == 3)
def knowsIn (r : ReplM) : Bool := r.hav.all (fun x => decide (0 ≤ x) && decide (x ≤ r.kept.log.length)) && r.gives.all (fun k => decide (keptFault k = 0))
def replFault (r : ReplM) : Int := if 0 ≤ r.me ∧ r.me ≤ 2 then (if (fours r && knowsIn r) = true then keptFault r.kept else 8) else 2

/-- P5.2 -/
def leads (r : ReplM) : Bool := r.kept.calm && decide (r.kept.view.tmod 3 = r.me)

/-- P5.3 -/
def isHW (m : MsgM) : Bool := decide (m.kind = 2) || decide (m.kind = 3)
def isHG (m : MsgM) : Bool := decide (m.kind = 2) || decide (m.kind = 4)
def msgKept (m : MsgM) : KeptM := ⟨m.view, m.normal, false, m.log, m.commit⟩
def msgRange (m : MsgM) : Bool := ((decide (0 ≤ m.frm) && decide (m.frm ≤ 2)) && (decide (0 ≤ m.dst) && decide (m.dst ≤ 2))) && (decide (m.frm ≠ m.dst) && ((decide (0 ≤ m.view) && decide (m.view ≤ 1048576)) && (decide (0 ≤ m.n) && decide (m.n ≤ 60))))
def msgForm (m : MsgM) : Bool :=
  !((decide (m.kind ≠ 4) && decide (m.normal ≠ 0)) || (decide (m.kind ≠ 2) && decide (m.n ≠ 0))) &&
  (!(isHW m && (decide (m.commit ≠ 0) || decide (m.log.length ≠ 0))) &&
   !((decide (m.kind = 1) && decide (m.frm ≠ m.view.tmod 3)) || (isHG m && decide (m.dst ≠ m.view.tmod 3))))
def msgFault (m : MsgM) : Int :=
  if 1 ≤ m.kind ∧ m.kind ≤ 4 then (if msgRange m = true then (if msgForm m = true then keptFault (msgKept m) else 4) else 2) else 3

/-- What is sent to all others. -/
def others (me : Int) : List Int := [0, 1, 2].filter (fun i => decide (i ≠ me))
def toAll (r : ReplM) (kind commit : Int) (log : List (List UInt8)) : List MsgM := (others r.me).map fun i => ⟨kind, r.me, i, r.kept.view, 0, commit, 0, log⟩
def ledBy (r : ReplM) : List MsgM := toAll r 1 r.kept.commit r.kept.log

/-- P5.5 -/
def wantR (r : ReplM) (view : Int) : ReplM :=
  ⟨r.me, ⟨view, r.kept.normal, false, r.kept.log, r.kept.commit⟩, [0, 0, 0], [false, false, false].set r.me.toNat true, [zeroKept, zeroKept, zeroKept], [false, false, false]⟩
def wantL (r : ReplM) (view : Int) : List MsgM := toAll (wantR r view) 3 0 []

/-- P5.7: of what is given, one behind another: how many; the place of the best one (-1: none); the greatest commit. -/
structure Best where
  many : Int
  at_ : Int
  commit : Int
def better (r : ReplM) (b : Best) (i : Nat) : Bool :=
  decide (b.at_ < 0) || (decide ((r.gives.getD b.at_.toNat zeroKept).normal < (r.gives.getD i zeroKept).normal) ||
    (decide ((r.gives.getD i zeroKept).normal = (r.gives.getD b.at_.toNat zeroKept).normal) && decide ((r.gives.getD b.at_.toNat zeroKept).log.length < (r.gives.getD i zeroKept).log.length)))
def bestStep (r : ReplM) (b : Best) (i : Nat) : Best :=
  if r.given.getD i false = true then ⟨b.many + 1, if better r b i = true then i else b.at_, if b.commit < (r.gives.getD i zeroKept).commit then (r.gives.getD i zeroKept).commit else b.commit⟩ else b
def bestTo (r : ReplM) : Nat → Best
  | 0 => ⟨0, -1, 0⟩
  | k + 1 => bestStep r (bestTo r k) k
def begins (r : ReplM) : Bool := decide (2 ≤ (bestTo r 3).many) && r.given.getD r.me.toNat false
def bestLog (r : ReplM) : List (List UInt8) := (r.gives.getD (bestTo r 3).at_.toNat zeroKept).log
def beginR (r : ReplM) : ReplM :=
  if begins r = true then forgot ⟨r.me, ⟨r.kept.view, r.kept.view, true, bestLog r, min (bestTo r 3).commit (bestLog r).length⟩, [], [], [], []⟩ else r
def beginL (r : ReplM) : List MsgM := if begins r = true then ledBy (beginR r) else []

/-- What a replica gives. -/
def ownK (r : ReplM) : KeptM := ⟨r.kept.view, r.kept.normal, false, r.kept.log, r.kept.commit⟩
def withGive (r : ReplM) (i : Nat) (k : KeptM) : ReplM := ⟨r.me, r.kept, r.hav, r.wants, r.gives.set i k, r.given.set i true⟩

/-- P5.4: a Lead. -/
def leadK (k : KeptM) (m : MsgM) : KeptM :=
  let k1 : KeptM := if m.view > k.view ∨ k.calm = false then ⟨m.view, m.view, true, m.log, min k.commit m.log.length⟩
    else if m.log.length > k.log.length then ⟨k.view, k.normal, k.calm, m.log, k.commit⟩ else k
  ⟨k1.view, k1.normal, k1.calm, k1.log, max k1.commit (min m.commit k1.log.length)⟩
def leadR (r : ReplM) (m : MsgM) : ReplM :=
  if m.view > r.kept.view ∨ r.kept.calm = false then forgot ⟨r.me, leadK r.kept m, [], [], [], []⟩ else ⟨r.me, leadK r.kept m, r.hav, r.wants, r.gives, r.given⟩
def hasMsg (r : ReplM) (to : Int) : MsgM := ⟨2, r.me, to, r.kept.view, 0, 0, r.kept.log.length, []⟩

/-- P5.6: a Has. -/
def hasR (r : ReplM) (m : MsgM) : ReplM :=
  if m.view = r.kept.view ∧ leads r = true then
    ⟨r.me, ⟨r.kept.view, r.kept.normal, r.kept.calm, r.kept.log, max r.kept.commit (min m.n r.kept.log.length)⟩, r.hav.set m.frm.toNat (max (r.hav.getD m.frm.toNat 0) (min m.n r.kept.log.length)), r.wants, r.gives, r.given⟩
  else r
def hasL (r : ReplM) (m : MsgM) : List MsgM :=
  if m.view = r.kept.view ∧ leads r = true then (if r.kept.commit < min m.n r.kept.log.length then ledBy (hasR r m) else []) else []

/-- P5.5: a Want, behind the wish for its view. -/
def wantedR (r : ReplM) (m : MsgM) : ReplM :=
  if r.kept.calm = true ∨ r.wants.getD m.frm.toNat false = true then r
  else
    let r1 : ReplM := ⟨r.me, r.kept, r.hav, r.wants.set m.frm.toNat true, r.gives, r.given⟩
    if r.kept.view.tmod 3 = r.me then beginR (withGive r1 r.me.toNat (ownK r1)) else r1
def wantedL (r : ReplM) (m : MsgM) : List MsgM :=
  if r.kept.calm = true ∨ r.wants.getD m.frm.toNat false = true then []
  else
    let r1 : ReplM := ⟨r.me, r.kept, r.hav, r.wants.set m.frm.toNat true, r.gives, r.given⟩
    if r.kept.view.tmod 3 = r.me then beginL (withGive r1 r.me.toNat (ownK r1))
    else [⟨4, r.me, r.kept.view.tmod 3, r.kept.view, r.kept.normal, r.kept.commit, 0, r.kept.log⟩]

/-- P5.7: a Give, behind the wish for its view. -/
def gaveR (r : ReplM) (m : MsgM) : ReplM :=
  if r.given.getD r.me.toNat false = true then withGive r m.frm.toNat (msgKept m) else withGive (withGive r r.me.toNat (ownK r)) m.frm.toNat (msgKept m)
def giveR (r : ReplM) (m : MsgM) : ReplM := if r.kept.calm = true then r else beginR (gaveR r m)
def giveL (r : ReplM) (m : MsgM) : List MsgM := if r.kept.calm = true then [] else beginL (gaveR r m)

/-- P5.4 to P5.7 -/
def wishes (r : ReplM) (m : MsgM) : Bool := (decide (m.kind = 3) || decide (m.kind = 4)) && decide (r.kept.view < m.view)
def wishR (r : ReplM) (m : MsgM) : ReplM := if wishes r m = true then wantR r m.view else r
def wishL (r : ReplM) (m : MsgM) : List MsgM := if wishes r m = true then wantL r m.view else []
def hearR' (r : ReplM) (m : MsgM) : ReplM :=
  if m.kind = 1 then leadR r m else if m.kind = 2 then hasR r m else if m.kind = 3 then wantedR (wishR r m) m else giveR (wishR r m) m
def hearL' (r : ReplM) (m : MsgM) : List MsgM :=
  if m.kind = 1 then [hasMsg (leadR r m) m.frm] else if m.kind = 2 then hasL r m else if m.kind = 3 then wishL r m ++ wantedL (wishR r m) m else wishL r m ++ giveL (wishR r m) m
def hearE (r : ReplM) (m : MsgM) : Int :=
  if replFault r ≠ 0 then replFault r else if msgFault m ≠ 0 then msgFault m else if m.dst ≠ r.me then 6 else if m.view < r.kept.view then 9 else 0
def hearR (r : ReplM) (m : MsgM) : ReplM := if hearE r m = 0 then hearR' r m else zeroRepl
def hearL (r : ReplM) (m : MsgM) : List MsgM := if hearE r m = 0 then hearL' r m else []

/-- P5.8 -/
def takeE (r : ReplM) (s : List UInt8) : Int :=
  if replFault r ≠ 0 then replFault r else if leads r = false then 14 else if 60 ≤ r.kept.log.length then 7 else decE s
def takeR' (r : ReplM) (s : List UInt8) : ReplM := ⟨r.me, ⟨r.kept.view, r.kept.normal, r.kept.calm, r.kept.log ++ [s], r.kept.commit⟩, r.hav, r.wants, r.gives, r.given⟩
def takeR (r : ReplM) (s : List UInt8) : ReplM := if takeE r s = 0 then takeR' r s else zeroRepl
def takeL (r : ReplM) (s : List UInt8) : List MsgM := if takeE r s = 0 then ledBy (takeR' r s) else []

/-- P5.9 -/
def tickE (r : ReplM) : Int := replFault r
def tickR' (r : ReplM) : ReplM := if r.kept.calm = true then r else ⟨r.me, r.kept, r.hav, r.wants.set r.me.toNat true, r.gives, r.given⟩
def tickL' (r : ReplM) : List MsgM := if leads r = true then ledBy r else if r.kept.calm = true then [hasMsg r (r.kept.view.tmod 3)] else toAll r 3 0 []
def tickR (r : ReplM) : ReplM := if tickE r = 0 then tickR' r else zeroRepl
def tickL (r : ReplM) : List MsgM := if tickE r = 0 then tickL' r else []
def alarmE (r : ReplM) : Int := if replFault r ≠ 0 then replFault r else if 1048576 ≤ r.kept.view then 7 else 0
def alarmR (r : ReplM) : ReplM := if alarmE r = 0 then wantR r (r.kept.view + 1) else zeroRepl
def alarmL (r : ReplM) : List MsgM := if alarmE r = 0 then wantL r (r.kept.view + 1) else []

end Go.Proofs.YtmdgkjbiicaljagDoor

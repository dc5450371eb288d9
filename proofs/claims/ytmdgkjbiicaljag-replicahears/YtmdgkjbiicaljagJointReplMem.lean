/- The plain mathematics of package replica: replicas, messages, and what comes of them. -/
import Derived.Test.YtmdgkjbiicaljagStageMath
import Derived.Test.YtmdgkjbiicaljagJointKeptRead
namespace Go.Proofs.Ytmdgkjbiicaljag
set_option linter.unusedVariables false

structure ReplM where
  me : Int
  kept : KeptM
  hav : List Int
  wants : List Bool
  gives : List KeptM
  given : List Bool
structure MsgM where
  kind : Int
  frm : Int
  dst : Int
  view : Int
  normal : Int
  commit : Int
  n : Int
  log : List (List UInt8)

def zeroRepl : ReplM := ⟨0, zeroKept, [], [], [], []⟩

/-- P5.1 -/
def forgot (r : ReplM) : ReplM := ⟨r.me, r.kept, [0, 0, 0], [false, false, false], [zeroKept, zeroKept, zeroKept], [false, false, false]⟩
def newrE (me : Int) (k : KeptM) : Int := if 0 ≤ me ∧ me ≤ 2 then keptFault k else 2
def newrR (me : Int) (k : KeptM) : ReplM := if newrE me k = 0 then forgot ⟨me, k, [], [], [], []⟩ else zeroRepl
def fours (r : ReplM) : Bool := (r.hav.length == 3 && r.wants.length == 3) && (r.gives.length == 3 && r.given.length == 3)
def knowsIn (r : ReplM) : Bool := r.hav.all (fun x => decide (0 ≤ x) && decide (x ≤ r.kept.log.length)) && r.gives.all (fun k => decide (keptFault k = 0))
def replFault (r : ReplM) : Int := if 0 ≤ r.me ∧ r.me ≤ 2 then (if (fours r && knowsIn r) = true then keptFault r.kept else 8) else 2

/-- P5.2 -/
def leads (r : ReplM) : Bool := r.kept.calm && decide (r.kept.view.tmod 3 = r.me)

/-- P5.3 -/
def isHW (m : MsgM) : Bool := decide (m.kind = 2) || decide (m.kind = 3)
def isHG (m : MsgM) : Bool := decide (m.kind = 2) || decide (m.kind = 4)
def msgKept (m : MsgM) : KeptM := ⟨m.view, m.normal, false, m.log, m.commit⟩
def msgRange (m : MsgM) : Bool := ((decide (0 ≤ m.frm) && decide (m.frm ≤ 2)) && (decide (0 ≤ m.dst) && decide (m.dst ≤ 2))) && (decide (m.frm ≠ m.dst) && ((decide (0 ≤ m.view) && decide (m.view ≤ 1048576)) && (decide (0 ≤ m.n) && decide (m.n ≤ 60))))
def msgForm (m : MsgM) : Bool :=
  !((decide (m.kind ≠ 4) && decide (m.normal ≠ 0)) || (decide (m.kind ≠ 2) && decide (m.n ≠ 0))) &&
  (!(isHW m && (decide (m.commit ≠ 0) || decide (m.log.length ≠ 0))) &&
   !((decide (m.kind = 1) && decide (m.frm ≠ m.view.tmod 3)) || (isHG m && decide (m.dst ≠ m.view.tmod 3))))
def msgFault (m : MsgM) : Int :=
  if 1 ≤ m.kind ∧ m.kind ≤ 4 then (if msgRange m = true then (if msgForm m = true then keptFault (msgKept m) else 4) else 2) else 3

/-- What is sent to all others. -/
def others (me : Int) : List Int := [0, 1, 2].filter (fun i => decide (i ≠ me))
def toAll (r : ReplM) (kind commit : Int) (log : List (List UInt8)) : List MsgM := (others r.me).map fun i => ⟨kind, r.me, i, r.kept.view, 0, commit, 0, log⟩
def ledBy (r : ReplM) : List MsgM := toAll r 1 r.kept.commit r.kept.log

/-- P5.5 -/
def wantR (r : ReplM) (view : Int) : ReplM :=
  ⟨r.me, ⟨view, r.kept.normal, false, r.kept.log, r.kept.commit⟩, [0, 0, 0], [false, false, false].set r.me.toNat true, [zeroKept, zeroKept, zeroKept], [false, false, false]⟩
def wantL (r : ReplM) (view : Int) : List MsgM := toAll (wantR r view) 3 0 []

/-- P5.7: of what is given, one behind another: how many; the place of the best one (-1: none); the greatest commit. -/
structure Best where
  many : Int
  at_ : Int
  commit : Int
def better (r : ReplM) (b : Best) (i : Nat) : Bool :=
  decide (b.at_ < 0) || (decide ((r.gives.getD b.at_.toNat zeroKept).normal < (r.gives.getD i zeroKept).normal) ||
    (decide ((r.gives.getD i zeroKept).normal = (r.gives.getD b.at_.toNat zeroKept).normal) && decide ((r.gives.getD b.at_.toNat zeroKept).log.length < (r.gives.getD i zeroKept).log.length)))
def bestStep (r : ReplM) (b : Best) (i : Nat) : Best :=
  if r.given.getD i false = true then ⟨b.many + 1, if better r b i = true then i else b.at_, if b.commit < (r.gives.getD i zeroKept).commit then (r.gives.getD i zeroKept).commit else b.commit⟩ else b
def bestTo (r : ReplM) : Nat → Best
  | 0 => ⟨0, -1, 0⟩
  | k + 1 => bestStep r (bestTo r k) k
def begins (r : ReplM) : Bool := decide (2 ≤ (bestTo r 3).many) && r.given.getD r.me.toNat false
def bestLog (r : ReplM) : List (List UInt8) := (r.gives.getD (bestTo r 3).at_.toNat zeroKept).log
def beginR (r : ReplM) : ReplM :=
  if begins r = true then forgot ⟨r.me, ⟨r.kept.view, r.kept.view, true, bestLog r, min (bestTo r 3).commit (bestLog r).length⟩, [], [], [], []⟩ else r
def beginL (r : ReplM) : List MsgM := if begins r = true then ledBy (beginR r) else []

/-- What a replica gives. -/
def ownK (r : ReplM) : KeptM := ⟨r.kept.view, r.kept.normal, false, r.kept.log, r.kept.commit⟩
def withGive (r : ReplM) (i : Nat) (k : KeptM) : ReplM := ⟨r.me, r.kept, r.hav, r.wants, r.gives.set i k, r.given.set i true⟩

/-- P5.4: a Lead. -/
def leadK (k : KeptM) (m : MsgM) : KeptM :=
  let k1 : KeptM := if m.view > k.view ∨ k.calm = false then ⟨m.view, m.view, true, m.log, min k.commit m.log.length⟩
    else if m.log.length > k.log.length then ⟨k.view, k.normal, k.calm, m.log, k.commit⟩ else k
  ⟨k1.view, k1.normal, k1.calm, k1.log, max k1.commit (min m.commit k1.log.length)⟩
def leadR (r : ReplM) (m : MsgM) : ReplM :=
  if m.view > r.kept.view ∨ r.kept.calm = false then forgot ⟨r.me, leadK r.kept m, [], [], [], []⟩ else ⟨r.me, leadK r.kept m, r.hav, r.wants, r.gives, r.given⟩
def hasMsg (r : ReplM) (to : Int) : MsgM := ⟨2, r.me, to, r.kept.view, 0, 0, r.kept.log.length, []⟩

/-- P5.6: a Has. -/
def hasR (r : ReplM) (m : MsgM) : ReplM :=
  if m.view = r.kept.view ∧ leads r = true then
    ⟨r.me, ⟨r.kept.view, r.kept.normal, r.kept.calm, r.kept.log, max r.kept.commit (min m.n r.kept.log.length)⟩, r.hav.set m.frm.toNat (max (r.hav.getD m.frm.toNat 0) (min m.n r.kept.log.length)), r.wants, r.gives, r.given⟩
  else r
def hasL (r : ReplM) (m : MsgM) : List MsgM :=
  if m.view = r.kept.view ∧ leads r = true then (if r.kept.commit < min m.n r.kept.log.length then ledBy (hasR r m) else []) else []

/-- P5.5: a Want, behind the wish for its view. -/
def wantedR (r : ReplM) (m : MsgM) : ReplM :=
  if r.kept.calm = true ∨ r.wants.getD m.frm.toNat false = true then r
  else
    let r1 : ReplM := ⟨r.me, r.kept, r.hav, r.wants.set m.frm.toNat true, r.gives, r.given⟩
    if r.kept.view.tmod 3 = r.me then beginR (withGive r1 r.me.toNat (ownK r1)) else r1
def wantedL (r : ReplM) (m : MsgM) : List MsgM :=
  if r.kept.calm = true ∨ r.wants.getD m.frm.toNat false = true then []
  else
    let r1 : ReplM := ⟨r.me, r.kept, r.hav, r.wants.set m.frm.toNat true, r.gives, r.given⟩
    if r.kept.view.tmod 3 = r.me then beginL (withGive r1 r.me.toNat (ownK r1))
    else [⟨4, r.me, r.kept.view.tmod 3, r.kept.view, r.kept.normal, r.kept.commit, 0, r.kept.log⟩]

/-- P5.7: a Give, behind the wish for its view. -/
def gaveR (r : ReplM) (m : MsgM) : ReplM :=
  if r.given.getD r.me.toNat false = true then withGive r m.frm.toNat (msgKept m) else withGive (withGive r r.me.toNat (ownK r)) m.frm.toNat (msgKept m)
def giveR (r : ReplM) (m : MsgM) : ReplM := if r.kept.calm = true then r else beginR (gaveR r m)
def giveL (r : ReplM) (m : MsgM) : List MsgM := if r.kept.calm = true then [] else beginL (gaveR r m)

/-- P5.4 to P5.7 -/
def wishes (r : ReplM) (m : MsgM) : Bool := (decide (m.kind = 3) || decide (m.kind = 4)) && decide (r.kept.view < m.view)
def wishR (r : ReplM) (m : MsgM) : ReplM := if wishes r m = true then wantR r m.view else r
def wishL (r : ReplM) (m : MsgM) : List MsgM := if wishes r m = true then wantL r m.view else []
def hearR' (r : ReplM) (m : MsgM) : ReplM :=
  if m.kind = 1 then leadR r m else if m.kind = 2 then hasR r m else if m.kind = 3 then wantedR (wishR r m) m else giveR (wishR r m) m
def hearL' (r : ReplM) (m : MsgM) : List MsgM :=
  if m.kind = 1 then [hasMsg (leadR r m) m.frm] else if m.kind = 2 then hasL r m else if m.kind = 3 then wishL r m ++ wantedL (wishR r m) m else wishL r m ++ giveL (wishR r m) m
def hearE (r : ReplM) (m : MsgM) : Int :=
  if replFault r ≠ 0 then replFault r else if msgFault m ≠ 0 then msgFault m else if m.dst ≠ r.me then 6 else if m.view < r.kept.view then 9 else 0
def hearR (r : ReplM) (m : MsgM) : ReplM := if hearE r m = 0 then hearR' r m else zeroRepl
def hearL (r : ReplM) (m : MsgM) : List MsgM := if hearE r m = 0 then hearL' r m else []

/-- P5.8 -/
def takeE (r : ReplM) (s : List UInt8) : Int :=
  if replFault r ≠ 0 then replFault r else if leads r = false then 14 else if 60 ≤ r.kept.log.length then 7 else decE s
def takeR' (r : ReplM) (s : List UInt8) : ReplM := ⟨r.me, ⟨r.kept.view, r.kept.normal, r.kept.calm, r.kept.log ++ [s], r.kept.commit⟩, r.hav, r.wants, r.gives, r.given⟩
def takeR (r : ReplM) (s : List UInt8) : ReplM := if takeE r s = 0 then takeR' r s else zeroRepl
def takeL (r : ReplM) (s : List UInt8) : List MsgM := if takeE r s = 0 then ledBy (takeR' r s) else []

/-- P5.9 -/
def tickE (r : ReplM) : Int := replFault r
def tickR' (r : ReplM) : ReplM := if r.kept.calm = true then r else ⟨r.me, r.kept, r.hav, r.wants.set r.me.toNat true, r.gives, r.given⟩
def tickL' (r : ReplM) : List MsgM := if leads r = true then ledBy r else if r.kept.calm = true then [hasMsg r (r.kept.view.tmod 3)] else toAll r 3 0 []
def tickR (r : ReplM) : ReplM := if tickE r = 0 then tickR' r else zeroRepl
def tickL (r : ReplM) : List MsgM := if tickE r = 0 then tickL' r else []
def alarmE (r : ReplM) : Int := if replFault r ≠ 0 then replFault r else if 1048576 ≤ r.kept.view then 7 else 0
def alarmR (r : ReplM) : ReplM := if alarmE r = 0 then wantR r (r.kept.view + 1) else zeroRepl
def alarmL (r : ReplM) : List MsgM := if alarmE r = 0 then wantL r (r.kept.view + 1) else []

end Go.Proofs.Ytmdgkjbiicaljag

/- How replicas and messages lie in memory: those that came in, and those that a call made. -/
namespace Go.Proofs.Ytmdgkjbiicaljag
open Go.RowKit Go.WideShapes
set_option linter.unusedVariables false
set_option linter.unusedSimpArgs false

/-! ### Rows of elements of several cells. -/
theorem flat_len {α : Type} (f : α → List Value) (s : Nat) (hf : ∀ x, (f x).length = s) : ∀ l : List α, (l.flatMap f).length = l.length * s
  | [] => by simp
  | x :: l => by rw [List.flatMap_cons, List.length_append, flat_len f s hf l, hf, List.length_cons, Nat.succ_mul]; omega
theorem flat_get {α : Type} (f : α → List Value) (s : Nat) (hf : ∀ x, (f x).length = s) : ∀ (l : List α) (i j : Nat) (x : α), l[i]? = some x → j < s → (l.flatMap f)[i * s + j]? = (f x)[j]?
  | y :: l, 0, j, x, hi, hj => by
    have : y = x := by simpa using hi
    subst this
    rw [List.flatMap_cons, List.getElem?_append_left (by rw [hf]; omega)]
    simp
  | y :: l, i + 1, j, x, hi, hj => by
    have e : (i + 1) * s + j = s + (i * s + j) := by rw [Nat.succ_mul]; omega
    rw [List.flatMap_cons, List.getElem?_append_right (by rw [hf, e]; omega), hf, e, Nat.add_sub_cancel_left]
    exact flat_get f s hf l i j x (by simpa using hi) hj
/-- Cells put one behind another, from place k on. -/
def putAt (xs : List Value) (k : Nat) : List Value → List Value
  | [] => xs
  | c :: cs => putAt (xs.set k c) (k + 1) cs
theorem putAt_left (ys : List Value) : ∀ (cs xs : List Value) (k : Nat), putAt (ys ++ xs) (ys.length + k) cs = ys ++ putAt xs k cs
  | [], xs, k => rfl
  | c :: cs, xs, k => by
    unfold putAt
    rw [List.set_append_right _ _ (by omega), Nat.add_sub_cancel_left, Nat.add_assoc]
    exact putAt_left ys cs (xs.set k c) (k + 1)
theorem putAt_all : ∀ (cs ys zs xs : List Value), cs.length = ys.length → putAt (zs ++ (ys ++ xs)) zs.length cs = zs ++ (cs ++ xs)
  | [], [], zs, xs, _ => rfl
  | c :: cs, y :: ys, zs, xs, h => by
    unfold putAt
    have e : (zs ++ (y :: ys ++ xs)).set zs.length c = (zs ++ [c]) ++ (ys ++ xs) := by simp
    have := putAt_all cs ys (zs ++ [c]) xs (by simpa using h)
    rw [e]
    simp at this ⊢
    exact this
theorem flat_set {α : Type} (f : α → List Value) (s : Nat) (hf : ∀ x, (f x).length = s) : ∀ (l : List α) (i : Nat) (x : α), i < l.length → (l.set i x).flatMap f = putAt (l.flatMap f) (i * s) (f x)
  | y :: l, 0, x, _ => by
    have := putAt_all (f x) (f y) [] (l.flatMap f) (by rw [hf, hf])
    simp at this ⊢
    exact this.symm
  | y :: l, i + 1, x, h => by
    rw [List.set_cons_succ, List.flatMap_cons, List.flatMap_cons, flat_set f s hf l i x (by simpa using h), Nat.succ_mul, Nat.add_comm, ← hf y, putAt_left, hf]

/-! ### Lists of numbers and of bools. -/
def encI (n : Int) : Value := .int .i64 n
def encB (b : Bool) : Value := .bool b
theorem encI_one (l : List Int) : ∀ u ∈ l.map encI, u.oneCell' = true := by
  intro u hu
  obtain ⟨s, _, rfl⟩ := List.mem_map.1 hu
  rfl
theorem encB_one (l : List Bool) : ∀ u ∈ l.map encB, u.oneCell' = true := by
  intro u hu
  obtain ⟨s, _, rfl⟩ := List.mem_map.1 hu
  rfl
def Ints (w : World) (v : Value) (l : List Int) : Prop :=
  ∃ a cap, v = .slice a l.length cap ∧ l.length ≤ 140737488355328 ∧ ∀ i, i < l.length → ∃ b o, a = some ⟨b, o, none⟩ ∧ w.cell? ⟨b, o + i, none⟩ = some (.int .i64 (l.getD i 0))
def Bools (w : World) (v : Value) (l : List Bool) : Prop :=
  ∃ a cap, v = .slice a l.length cap ∧ l.length ≤ 140737488355328 ∧ ∀ i, i < l.length → ∃ b o, a = some ⟨b, o, none⟩ ∧ w.cell? ⟨b, o + i, none⟩ = some (.bool (l.getD i false))
theorem Ints.below {w w' : World} {v : Value} {l : List Int} (h : Ints w v l) (hb : Below w.heap.size w w') : Ints w' v l := by
  obtain ⟨a, cap, hv, hl, hc⟩ := h
  refine ⟨a, cap, hv, hl, fun i hi => ?_⟩
  obtain ⟨b, o, ha, hcell⟩ := hc i hi
  exact ⟨b, o, ha, by rw [hb.cell (p := ⟨b, o + i, none⟩) (lt_of_cell hcell)]; exact hcell⟩
theorem Bools.below {w w' : World} {v : Value} {l : List Bool} (h : Bools w v l) (hb : Below w.heap.size w w') : Bools w' v l := by
  obtain ⟨a, cap, hv, hl, hc⟩ := h
  refine ⟨a, cap, hv, hl, fun i hi => ?_⟩
  obtain ⟨b, o, ha, hcell⟩ := hc i hi
  exact ⟨b, o, ha, by rw [hb.cell (p := ⟨b, o + i, none⟩) (lt_of_cell hcell)]; exact hcell⟩
theorem Ints.row {w : World} {v : Value} {l : List Int} (h : Ints w v l) : RowAt w v l.length 1 (l.map encI) := by
  obtain ⟨a, cap, hv, hl, hc⟩ := h
  refine ⟨a, cap, hv, by simp, fun j u hj => ?_⟩
  have hj' : j < l.length := by have := (List.getElem?_eq_some_iff.1 hj).1; simpa using this
  obtain ⟨b, o, ha, hcell⟩ := hc j hj'
  refine ⟨⟨b, o, none⟩, ha, ?_⟩
  rw [add_plain, hcell]
  simp [hj'] at hj
  rw [← hj]
  simp [encI, List.getD, hj']
theorem Bools.row {w : World} {v : Value} {l : List Bool} (h : Bools w v l) : RowAt w v l.length 1 (l.map encB) := by
  obtain ⟨a, cap, hv, hl, hc⟩ := h
  refine ⟨a, cap, hv, by simp, fun j u hj => ?_⟩
  have hj' : j < l.length := by have := (List.getElem?_eq_some_iff.1 hj).1; simpa using this
  obtain ⟨b, o, ha, hcell⟩ := hc j hj'
  refine ⟨⟨b, o, none⟩, ha, ?_⟩
  rw [add_plain, hcell]
  simp [hj'] at hj
  rw [← hj]
  simp [encB, List.getD, hj']
theorem Ints.of_own {w : World} {base : Nat} {e : TypeId} {v : Value} {l : List Int} (h : w.ownsRow base e 1 v l.length (l.map encI)) (h1 : l.length ≤ 140737488355328) : Ints w v l := by
  obtain ⟨a, cap, hv⟩ := own_form h
  refine ⟨a, cap, hv, h1, fun i hi => ?_⟩
  obtain ⟨g, cap', hv', _, _, hc, _⟩ := own_cell h i hi
  rw [hv] at hv'
  cases hv'
  refine ⟨g, 0, rfl, ?_⟩
  rw [Nat.zero_add, hc]
  simp [hi, encI, List.getD]
theorem Bools.of_own {w : World} {base : Nat} {e : TypeId} {v : Value} {l : List Bool} (h : w.ownsRow base e 1 v l.length (l.map encB)) (h1 : l.length ≤ 140737488355328) : Bools w v l := by
  obtain ⟨a, cap, hv⟩ := own_form h
  refine ⟨a, cap, hv, h1, fun i hi => ?_⟩
  obtain ⟨g, cap', hv', _, _, hc, _⟩ := own_cell h i hi
  rw [hv] at hv'
  cases hv'
  refine ⟨g, 0, rfl, ?_⟩
  rw [Nat.zero_add, hc]
  simp [hi, encB, List.getD]

/-! ### Lists of what is kept. -/
def keptRow (p : KeptM × Value) : List Value := keptCells p.1 p.2
theorem keptRow_len (p : KeptM × Value) : (keptRow p).length = 5 := rfl
def KeptsAt (w : World) (v : Value) (l : List KeptM) : Prop :=
  ∃ a cap, v = .slice a l.length cap ∧ l.length * 56 ≤ 140737488355328 ∧ ∀ i, i < l.length → ∃ b o vl, a = some ⟨b, o, none⟩ ∧ (∀ j u, (keptCells (l.getD i zeroKept) vl)[j]? = some u → w.cell? ⟨b, o + i * 5 + j, none⟩ = some u) ∧ Strs w vl (l.getD i zeroKept).log
theorem KeptsAt.below {w w' : World} {v : Value} {l : List KeptM} (h : KeptsAt w v l) (hb : Below w.heap.size w w') : KeptsAt w' v l := by
  obtain ⟨a, cap, hv, hl, hc⟩ := h
  refine ⟨a, cap, hv, hl, fun i hi => ?_⟩
  obtain ⟨b, o, vl, ha, hcell, hs⟩ := hc i hi
  exact ⟨b, o, vl, ha, fun j u hj => by rw [hb.cell (p := ⟨b, o + i * 5 + j, none⟩) (lt_of_cell (hcell j u hj))]; exact hcell j u hj, hs.below hb⟩
/-- In memory of the call's own: ps, what is kept with the cells of its logs. -/
def KeptsNew (w : World) (B : Nat) (v : Value) (ps : List (KeptM × Value)) : Prop :=
  w.ownsRow B 24 5 v ps.length (ps.flatMap keptRow) ∧ ∀ p ∈ ps, w.ownsRow B 9 1 p.2 p.1.log.length (p.1.log.map enc)
def TextsIn (l : List (List UInt8)) : Prop := l.length * 16 ≤ 140737488355328 ∧ ∀ s ∈ l, s.length ≤ 140737488355328
theorem KeptsAt.of_own {w : World} {B : Nat} {v : Value} {ps : List (KeptM × Value)} (h : KeptsNew w B v ps) (h1 : ps.length * 56 ≤ 140737488355328) (h2 : ∀ p ∈ ps, TextsIn p.1.log) : KeptsAt w v (ps.map Prod.fst) := by
  obtain ⟨h, hs⟩ := h
  obtain ⟨a, cap, hv⟩ := own_formN h
  refine ⟨a, cap, by rw [List.length_map]; exact hv, by rw [List.length_map]; exact h1, fun i hi => ?_⟩
  rw [List.length_map] at hi
  have e1 : (ps.map Prod.fst).getD i zeroKept = ps[i].1 := by simp [List.getD, hi]
  have key : ∀ j, j < 5 → ∃ g, a = some ⟨g, 0, none⟩ ∧ w.cell? ⟨g, 0 + i * 5 + j, none⟩ = (keptRow ps[i])[j]? := fun j hj => by
    obtain ⟨g, cap', hv', _, _, hc, _⟩ := own_cellN h (by decide) (i * 5 + j) (by omega)
    rw [hv] at hv'
    cases hv'
    exact ⟨g, rfl, by rw [Nat.zero_add, hc, flat_get keptRow 5 keptRow_len ps i j ps[i] (List.getElem?_eq_getElem hi) hj]⟩
  obtain ⟨g, ha, _⟩ := key 0 (by decide)
  have hp : ps[i] ∈ ps := List.getElem_mem hi
  refine ⟨g, 0, ps[i].2, ha, fun j u hj => ?_, ?_⟩
  · rw [e1] at hj
    have hj5 : j < 5 := by have := (List.getElem?_eq_some_iff.1 hj).1; simpa [keptCells] using this
    obtain ⟨g', ha', hc⟩ := key j hj5
    rw [ha] at ha'
    cases ha'
    rw [hc]
    exact hj
  · rw [e1]
    have := h2 _ hp
    exact Strs.of_own (hs _ hp) (by have := this.1; omega) this.2

/-! ### Replicas. -/
def replCells (R : ReplM) (vl vh vw vg vn : Value) : List Value := [.int .i64 R.me, .int .i64 R.kept.view, .int .i64 R.kept.normal, .bool R.kept.calm, vl, .int .i64 R.kept.commit, vh, vw, vg, vn]
/-- The value is a replica. -/
def ReplAt (w : World) (v : Value) (R : ReplM) : Prop :=
  ∃ vl vh vw vg vn, v = .agg (replCells R vl vh vw vg vn).toArray ∧ Strs w vl R.kept.log ∧ Ints w vh R.hav ∧ Bools w vw R.wants ∧ KeptsAt w vg R.gives ∧ Bools w vn R.given
theorem ReplAt.below {w w' : World} {v : Value} {R : ReplM} (h : ReplAt w v R) (hb : Below w.heap.size w w') : ReplAt w' v R := by
  obtain ⟨vl, vh, vw, vg, vn, hv, h1, h2, h3, h4, h5⟩ := h
  exact ⟨vl, vh, vw, vg, vn, hv, h1.below hb, h2.below hb, h3.below hb, h4.below hb, h5.below hb⟩
structure ReplFits (R : ReplM) : Prop where
  log : TextsIn R.kept.log
  hav : R.hav.length * 8 ≤ 140737488355328
  wants : R.wants.length ≤ 140737488355328
  gives : R.gives.length * 56 ≤ 140737488355328
  each : ∀ k ∈ R.gives, TextsIn k.log
  given : R.given.length ≤ 140737488355328
/-- Two slices lie in different blocks, or one of them in none. -/
def Asunder (u v : Value) : Prop := ∀ k, u.ownBlock = some k → v.ownBlock ≠ some k
theorem Asunder.symm {u v : Value} (h : Asunder u v) : Asunder v u := fun k h1 h2 => h k h2 h1
/-- A replica in memory of the call's own, from block B on. -/
def ReplOwn (w : World) (B : Nat) (R : ReplM) (vl vh vw vg vn : Value) (ps : List (KeptM × Value)) : Prop :=
  R.gives = ps.map Prod.fst ∧ w.ownsRow B 9 1 vl R.kept.log.length (R.kept.log.map enc) ∧ w.ownsRow B 3 1 vh R.hav.length (R.hav.map encI) ∧ w.ownsRow B 4 1 vw R.wants.length (R.wants.map encB) ∧
  KeptsNew w B vg ps ∧ w.ownsRow B 4 1 vn R.given.length (R.given.map encB) ∧ Asunder vw vn ∧ ∀ p ∈ ps, Asunder vl p.2
def ReplNew (w : World) (B : Nat) (v : Value) (R : ReplM) : Prop := ∃ vl vh vw vg vn ps, v = .agg (replCells R vl vh vw vg vn).toArray ∧ ReplOwn w B R vl vh vw vg vn ps
theorem KeptsNew.map {w w' : World} {B B' : Nat} {v : Value} {ps : List (KeptM × Value)} (h : KeptsNew w B v ps)
    (f : ∀ (e : TypeId) (s : Nat) (x : Value) (m : Nat) (xs : List Value), (e = 9 ∨ e = 3 ∨ e = 4 ∨ e = 24) → w.ownsRow B e s x m xs → w'.ownsRow B' e s x m xs) : KeptsNew w' B' v ps :=
  ⟨f _ _ _ _ _ (by simp) h.1, fun p hp => f _ _ _ _ _ (by simp) (h.2 p hp)⟩
theorem ReplOwn.map {w w' : World} {B B' : Nat} {R : ReplM} {vl vh vw vg vn : Value} {ps : List (KeptM × Value)} (h : ReplOwn w B R vl vh vw vg vn ps)
    (f : ∀ (e : TypeId) (s : Nat) (x : Value) (m : Nat) (xs : List Value), (e = 9 ∨ e = 3 ∨ e = 4 ∨ e = 24) → w.ownsRow B e s x m xs → w'.ownsRow B' e s x m xs) : ReplOwn w' B' R vl vh vw vg vn ps :=
  ⟨h.1, f _ _ _ _ _ (by simp) h.2.1, f _ _ _ _ _ (by simp) h.2.2.1, f _ _ _ _ _ (by simp) h.2.2.2.1, h.2.2.2.2.1.map f, f _ _ _ _ _ (by simp) h.2.2.2.2.2.1, h.2.2.2.2.2.2⟩
theorem ReplOwn.other {w : World} {B : Nat} {R : ReplM} {vl vh vw vg vn : Value} {ps : List (KeptM × Value)} (h : ReplOwn w B R vl vh vw vg vn ps) {a : Addr} (ha : a.block < B) (x : Value) : ReplOwn (w.setCell a x) B R vl vh vw vg vn ps :=
  h.map fun _ _ _ _ _ _ r => ownsRow_setCell_below r ha x
theorem ReplOwn.base {w : World} {B B' : Nat} {R : ReplM} {vl vh vw vg vn : Value} {ps : List (KeptM × Value)} (h : ReplOwn w B R vl vh vw vg vn ps) (hb : B' ≤ B) : ReplOwn w B' R vl vh vw vg vn ps :=
  h.map fun _ _ _ _ _ _ r => own_base r hb
theorem ReplOwn.below {w w' : World} {B : Nat} {R : ReplM} {vl vh vw vg vn : Value} {ps : List (KeptM × Value)} (h : ReplOwn w B R vl vh vw vg vn ps) (hb : Below w.heap.size w w') : ReplOwn w' B R vl vh vw vg vn ps :=
  h.map fun _ _ _ _ _ _ r => own_below r hb (own_lt r)
/-- A store into a block of another type. -/
theorem ReplOwn.type {w : World} {B b : Nat} {R : ReplM} {vl vh vw vg vn : Value} {ps : List (KeptM × Value)} {t : TypeId} {cs : List Value} (h : ReplOwn w B R vl vh vw vg vn ps) (hb : Box w b t cs)
    (h1 : 9 ≠ t) (h2 : 3 ≠ t) (h3 : 4 ≠ t) (h4 : 24 ≠ t) (i : Nat) (x : Value) : ReplOwn (w.setCell ⟨b, i, none⟩ x) B R vl vh vw vg vn ps :=
  h.map fun e _ _ _ _ he r => own_other r (own_type r hb (by rcases he with rfl | rfl | rfl | rfl <;> assumption)) x
theorem ReplOwn.at {w : World} {B : Nat} {R : ReplM} {vl vh vw vg vn : Value} {ps : List (KeptM × Value)} (h : ReplOwn w B R vl vh vw vg vn ps) (hf : ReplFits R) : ReplAt w (.agg (replCells R vl vh vw vg vn).toArray) R := by
  obtain ⟨hg, h1, h2, h3, h4, h5, _⟩ := h
  refine ⟨vl, vh, vw, vg, vn, rfl, Strs.of_own h1 (by have := hf.log.1; omega) hf.log.2, Ints.of_own h2 (by have := hf.hav; omega), Bools.of_own h3 hf.wants, ?_, Bools.of_own h5 hf.given⟩
  rw [hg]
  have h6 := hf.gives
  have h7 := hf.each
  rw [hg] at h6 h7
  exact KeptsAt.of_own h4 (by simpa using h6) (fun p hp => h7 _ (List.mem_map.2 ⟨p, hp, rfl⟩))
theorem ReplNew.below {w w' : World} {B : Nat} {v : Value} {R : ReplM} (h : ReplNew w B v R) (hb : Below w.heap.size w w') : ReplNew w' B v R := by
  obtain ⟨vl, vh, vw, vg, vn, ps, hv, h⟩ := h
  exact ⟨vl, vh, vw, vg, vn, ps, hv, h.below hb⟩
theorem ReplNew.base {w : World} {B B' : Nat} {v : Value} {R : ReplM} (h : ReplNew w B v R) (hb : B' ≤ B) : ReplNew w B' v R := by
  obtain ⟨vl, vh, vw, vg, vn, ps, hv, h⟩ := h
  exact ⟨vl, vh, vw, vg, vn, ps, hv, h.base hb⟩
theorem ReplNew.other {w : World} {B : Nat} {v : Value} {R : ReplM} (h : ReplNew w B v R) {a : Addr} (ha : a.block < B) (x : Value) : ReplNew (w.setCell a x) B v R := by
  obtain ⟨vl, vh, vw, vg, vn, ps, hv, h⟩ := h
  exact ⟨vl, vh, vw, vg, vn, ps, hv, h.other ha x⟩
theorem ReplNew.at {w : World} {B : Nat} {v : Value} {R : ReplM} (h : ReplNew w B v R) (hf : ReplFits R) : ReplAt w v R := by
  obtain ⟨vl, vh, vw, vg, vn, ps, rfl, h⟩ := h
  exact h.at hf

/-! ### Messages. -/
def msgCells (M : MsgM) (vl : Value) : List Value := [.int .i64 M.kind, .int .i64 M.frm, .int .i64 M.dst, .int .i64 M.view, .int .i64 M.normal, .int .i64 M.commit, .int .i64 M.n, vl]
def MsgAt (w : World) (v : Value) (M : MsgM) : Prop := ∃ vl, v = .agg (msgCells M vl).toArray ∧ Strs w vl M.log
theorem MsgAt.below {w w' : World} {v : Value} {M : MsgM} (h : MsgAt w v M) (hb : Below w.heap.size w w') : MsgAt w' v M := by
  obtain ⟨vl, hv, hl⟩ := h
  exact ⟨vl, hv, hl.below hb⟩
def msgRow (p : MsgM × Value) : List Value := msgCells p.1 p.2
theorem msgRow_len (p : MsgM × Value) : (msgRow p).length = 8 := rfl
/-- Messages in memory of the call's own. -/
def MsgsOwn (w : World) (B : Nat) (v : Value) (ps : List (MsgM × Value)) : Prop :=
  w.ownsRow B 31 8 v ps.length (ps.flatMap msgRow) ∧ ∀ p ∈ ps, w.ownsRow B 9 1 p.2 p.1.log.length (p.1.log.map enc)
theorem MsgsOwn.map {w w' : World} {B B' : Nat} {v : Value} {ps : List (MsgM × Value)} (h : MsgsOwn w B v ps)
    (f : ∀ (e : TypeId) (s : Nat) (x : Value) (m : Nat) (xs : List Value), (e = 9 ∨ e = 31) → w.ownsRow B e s x m xs → w'.ownsRow B' e s x m xs) : MsgsOwn w' B' v ps :=
  ⟨f _ _ _ _ _ (by simp) h.1, fun p hp => f _ _ _ _ _ (by simp) (h.2 p hp)⟩
theorem MsgsOwn.other {w : World} {B : Nat} {v : Value} {ps : List (MsgM × Value)} (h : MsgsOwn w B v ps) {a : Addr} (ha : a.block < B) (x : Value) : MsgsOwn (w.setCell a x) B v ps :=
  h.map fun _ _ _ _ _ _ r => ownsRow_setCell_below r ha x
theorem MsgsOwn.base {w : World} {B B' : Nat} {v : Value} {ps : List (MsgM × Value)} (h : MsgsOwn w B v ps) (hb : B' ≤ B) : MsgsOwn w B' v ps :=
  h.map fun _ _ _ _ _ _ r => own_base r hb
theorem MsgsOwn.below {w w' : World} {B : Nat} {v : Value} {ps : List (MsgM × Value)} (h : MsgsOwn w B v ps) (hb : Below w.heap.size w w') : MsgsOwn w' B v ps :=
  h.map fun _ _ _ _ _ _ r => own_below r hb (own_lt r)
theorem MsgsOwn.type {w : World} {B b : Nat} {v : Value} {ps : List (MsgM × Value)} {t : TypeId} {cs : List Value} (h : MsgsOwn w B v ps) (hb : Box w b t cs)
    (h1 : 9 ≠ t) (h2 : 31 ≠ t) (i : Nat) (x : Value) : MsgsOwn (w.setCell ⟨b, i, none⟩ x) B v ps :=
  h.map fun e _ _ _ _ he r => own_other r (own_type r hb (by rcases he with rfl | rfl <;> assumption)) x

end Go.Proofs.Ytmdgkjbiicaljag

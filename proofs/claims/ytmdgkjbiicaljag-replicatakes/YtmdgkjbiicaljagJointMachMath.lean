/- The plain mathematics of volumes: what each function of package volume answers. -/
import Derived.Test.YtmdgkjbiicaljagJointMath
namespace Go.Proofs.Ytmdgkjbiicaljag

structure OpM where
  kind : Int
  place : Int
  snap : Int
  data : List UInt8

def opFaultN (k p s : Int) (n : Nat) : Int :=
  if k < 1 ∨ 4 < k then 3
  else if p < 0 ∨ 5 < p ∨ s < 0 ∨ 3 < s then 2
  else if (0 < s ∧ k ≠ 3) ∨ (0 < p ∧ k = 4) ∨ (0 < n ∧ k ≠ 1) then 4
  else if 8 < n then 1
  else 0
def opFault (o : OpM) : Int := opFaultN o.kind o.place o.snap o.data.length

structure VolM where
  now : List (List UInt8)
  snaps : List (List (List UInt8))

def secMay (l : List (List UInt8)) : Bool := l.all (fun s => decide (s.length ≤ 8)) && l.length == 6
def volMay (v : VolM) : Bool := secMay v.now && decide (v.snaps.length ≤ 3) && v.snaps.all secMay
def volFault (v : VolM) : Int := if volMay v then 0 else 8

/-- What VolumeFault has found after k snapshots. -/
def volTo (v : VolM) (k : Nat) : Bool := secMay v.now && decide ((v.snaps.length : Int) ≤ 3) && (v.snaps.take k).all secMay
theorem volTo_next (v : VolM) (k : Nat) (h : k < v.snaps.length) : volTo v (k + 1) = (volTo v k && secMay (v.snaps.getD k [])) := by
  unfold volTo
  rw [List.take_succ_eq_append_getElem h, List.all_append]
  simp [List.getD, h, Bool.and_assoc]
theorem volTo_all (v : VolM) (k : Nat) (h : v.snaps.length ≤ k) : volTo v k = volMay v := by
  unfold volTo volMay
  rw [List.take_of_length_le h]
  congr 2
  rw [Bool.eq_iff_iff]
  simp
  omega

structure ReplyM where
  code : Int
  n : Int
  data : List UInt8

/-- P2.3: the volume behind an operation that may be. -/
def didV (v : VolM) (o : OpM) : VolM :=
  if o.kind = 1 then { v with now := v.now.set o.place.toNat o.data }
  else if o.kind = 2 then { v with now := v.now.set o.place.toNat [] }
  else if o.kind = 3 then v
  else if v.snaps.length < 3 then { v with snaps := v.snaps ++ [v.now] }
  else v

/-- P2.3: its reply. -/
def didR (v : VolM) (o : OpM) : ReplyM :=
  if o.kind = 3 then
    if (v.snaps.length : Int) < o.snap then ⟨6, 0, []⟩
    else if 0 < o.snap then ⟨0, 0, (v.snaps.getD (o.snap - 1).toNat []).getD o.place.toNat []⟩
    else ⟨0, 0, v.now.getD o.place.toNat []⟩
  else if o.kind = 4 then
    if v.snaps.length < 3 then ⟨0, v.snaps.length + 1, []⟩ else ⟨7, 0, []⟩
  else ⟨0, 0, []⟩

theorem volMay_of (v : VolM) (h : volFault v = 0) : volMay v = true := by
  unfold volFault at h
  by_cases hm : volMay v = true
  · exact hm
  · rw [if_neg hm] at h; omega

theorem secMay_len {l : List (List UInt8)} (h : secMay l = true) : l.length = 6 ∧ ∀ s ∈ l, s.length ≤ 8 := by
  unfold secMay at h
  simp at h
  exact ⟨h.2, h.1⟩

theorem volMay_len {v : VolM} (h : volMay v = true) : v.now.length = 6 ∧ v.snaps.length ≤ 3 ∧ (∀ l ∈ v.snaps, l.length = 6) := by
  unfold volMay at h
  simp only [Bool.and_eq_true, decide_eq_true_eq, List.all_eq_true] at h
  exact ⟨(secMay_len h.1.1).1, h.1.2, fun l hl => (secMay_len (h.2 l hl)).1⟩

theorem opMay_of (o : OpM) (h : opFault o = 0) : (1 ≤ o.kind ∧ o.kind ≤ 4) ∧ (0 ≤ o.place ∧ o.place ≤ 5) ∧ (0 ≤ o.snap ∧ o.snap ≤ 3) ∧ o.data.length ≤ 8 := by
  unfold opFault opFaultN at h
  split at h
  · omega
  split at h
  · omega
  split at h
  · omega
  split at h
  · omega
  omega

/-- P2.3 whole: what is refused, else what is done. -/
def doE (v : VolM) (o : OpM) : Int := if volFault v = 0 then opFault o else volFault v
def doV (v : VolM) (o : OpM) : VolM := if doE v o = 0 then didV v o else ⟨[], []⟩
def doR (v : VolM) (o : OpM) : ReplyM := if doE v o = 0 then didR v o else ⟨0, 0, []⟩

end Go.Proofs.Ytmdgkjbiicaljag

/- The plain mathematics of package machine: requests as entries, states, and what entries do to them. -/
namespace Go.Proofs.Ytmdgkjbiicaljag

structure ReqM where
  client : Int
  num : Int
  op : OpM

/-- P3.1 -/
def reqFault (r : ReqM) : Int := if (1 ≤ r.client ∧ r.client ≤ 4) ∧ (1 ≤ r.num ∧ r.num ≤ 1048576) then opFault r.op else 2

theorem reqMay_of (r : ReqM) (h : reqFault r = 0) : (1 ≤ r.client ∧ r.client ≤ 4) ∧ (1 ≤ r.num ∧ r.num ≤ 1048576) ∧ opFault r.op = 0 := by
  unfold reqFault at h
  split at h
  · rename_i h1; exact ⟨h1.1, h1.2, h⟩
  · omega

/-- P3.2: the bytes of a request that may be. -/
def entryB (r : ReqM) : List UInt8 := b8 r.client :: b8 r.op.kind :: b8 r.op.place :: b8 r.op.snap :: (numBytes r.num ++ b8 r.op.data.length :: r.op.data)
def encS (r : ReqM) : List UInt8 := if reqFault r = 0 then entryB r else []

/-- P1.2: a number ahead of bytes. -/
def numE (l : List UInt8) : Int := if l.length < 4 then 5 else if valN l 4 ≤ 1073741824 then 0 else 4
def numV (l : List UInt8) : Int := if numE l = 0 then valN l 4 else 0
def numR (l : List UInt8) : List UInt8 := if numE l = 0 then l.drop 4 else []

/-- P1.2: a text ahead of bytes. -/
def txtE : List UInt8 → Int
  | [] => 5
  | c :: r => if r.length < c.toNat then 5 else 0
def txtD : List UInt8 → List UInt8
  | [] => []
  | c :: r => if r.length < c.toNat then [] else r.take c.toNat
def txtR : List UInt8 → List UInt8
  | [] => []
  | c :: r => if r.length < c.toNat then [] else r.drop c.toNat

theorem numR_le (l : List UInt8) : (numR l).length ≤ l.length := by unfold numR; split <;> simp
theorem txtR_le (l : List UInt8) : (txtR l).length ≤ l.length := by
  cases l with
  | nil => simp [txtR]
  | cons c r => simp only [txtR]; split <;> simp <;> omega
theorem txtD_le (l : List UInt8) : (txtD l).length ≤ l.length := by
  cases l with
  | nil => simp [txtD]
  | cons c r => simp only [txtD]; split <;> simp <;> omega
theorem numE_bd (l : List UInt8) : 0 ≤ numE l ∧ numE l ≤ 5 := by
  unfold numE
  split
  · omega
  · split <;> omega
theorem txtE_bd (l : List UInt8) : 0 ≤ txtE l ∧ txtE l ≤ 5 := by
  cases l with
  | nil => simp [txtE]
  | cons c r => unfold txtE; split <;> omega
theorem numV_bd (l : List UInt8) : 0 ≤ numV l ∧ numV l ≤ 1073741824 := by
  unfold numV
  split
  · rename_i h
    have := valN_lt4 l 4 (by omega)
    unfold numE at h
    split at h
    · omega
    split at h
    · omega
    · omega
  · omega

def zeroReq : ReqM := ⟨0, 0, ⟨0, 0, 0, []⟩⟩

/-- P3.3 -/
def reqOf (s : List UInt8) : ReqM := ⟨byteAt s 0, numV (s.drop 4), ⟨byteAt s 1, byteAt s 2, byteAt s 3, txtD (numR (s.drop 4))⟩⟩
def decE (s : List UInt8) : Int :=
  if 40 < s.length then 1
  else if s.length < 4 then 5
  else if numE (s.drop 4) ≠ 0 then numE (s.drop 4)
  else if txtE (numR (s.drop 4)) ≠ 0 then txtE (numR (s.drop 4))
  else if txtR (numR (s.drop 4)) ≠ [] then 4
  else reqFault (reqOf s)
def decR (s : List UInt8) : ReqM := if decE s = 0 then reqOf s else zeroReq

structure LastM where
  num : Int
  rep : ReplyM
def zeroLast : LastM := ⟨0, ⟨0, 0, []⟩⟩
structure StateM where
  vol : VolM
  lasts : List LastM
def zeroSt : StateM := ⟨⟨[], []⟩, []⟩

/-- P3.4 -/
def lastsMay (l : List LastM) : Bool := l.length == 4 && l.all (fun x => decide (0 ≤ x.num) && decide (x.num ≤ 1048576))
def stFault (s : StateM) : Int := if lastsMay s.lasts then volFault s.vol else 8

/-- P3.5 -/
def appE (S : StateM) (s : List UInt8) : Int := if stFault S = 0 then decE s else stFault S
def doneS (S : StateM) (r : ReqM) : StateM :=
  if (S.lasts.getD (r.client - 1).toNat zeroLast).num < r.num then ⟨didV S.vol r.op, S.lasts.set (r.client - 1).toNat ⟨r.num, didR S.vol r.op⟩⟩ else S
def appS (S : StateM) (s : List UInt8) : StateM := if appE S s = 0 then doneS S (reqOf s) else zeroSt
def playS (S : StateM) : List (List UInt8) → StateM
  | [] => S
  | s :: r => if appE S s = 0 then playS (appS S s) r else zeroSt
def playE (S : StateM) : List (List UInt8) → Int
  | [] => 0
  | s :: r => if appE S s = 0 then playE (appS S s) r else appE S s

end Go.Proofs.Ytmdgkjbiicaljag

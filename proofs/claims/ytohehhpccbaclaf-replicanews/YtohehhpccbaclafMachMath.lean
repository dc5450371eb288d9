/- The plain mathematics of package machine: requests as entries, states, and what entries do to them. -/
import Derived.Test.YtohehhpccbaclafBase
import Derived.Test.YtohehhpccbaclafMath
import Derived.Test.YtohehhpccbaclafVolMath
namespace Go.Proofs.Ytohehhpccbaclaf

structure ReqM where
  client : Int
  num : Int
  op : OpM

/-- P3.1 -/
def reqFault (r : ReqM) : Int := if (1 ≤ r.client ∧ r.client ≤ 4) ∧ (1 ≤ r.num ∧ r.num ≤ 1048576) then opFault r.op else 2

theorem reqMay_of (r : ReqM) (h : reqFault r = 0) : (1 ≤ r.client ∧ r.client ≤ 4) ∧ (1 ≤ r.num ∧ r.num ≤ 1048576) ∧ opFault r.op = 0 := by
  unfold reqFault at h
  split at h
  · rename_i h1; exact ⟨h1.1, h1.2, h⟩
  · omega

/-- P3.2: the bytes of a request that may be. -/
def entryB (r : ReqM) : List UInt8 := b8 r.client :: b8 r.op.kind :: b8 r.op.place :: b8 r.op.snap :: (numBytes r.num ++ b8 r.op.data.length :: r.op.data)
def encS (r : ReqM) : List UInt8 := if reqFault r = 0 then entryB r else []

/-- P1.2: a number ahead of bytes. -/
def numE (l : List UInt8) : Int := if l.length < 4 then 5 else if valN l 4 ≤ 1073741824 then 0 else 4
def numV (l : List UInt8) : Int := if numE l = 0 then valN l 4 else 0
def numR (l : List UInt8) : List UInt8 := if numE l = 0 then l.drop 4 else []

/-- P1.2: a text ahead of bytes. -/
def txtE : List UInt8 → Int
  | [] => 5
  | c :: r => if r.length < c.toNat then 5 else 0
def txtD : List UInt8 → List UInt8
  | [] => []
  | c :: r => if r.length < c.toNat then [] else r.take c.toNat
def txtR : List UInt8 → List UInt8
  | [] => []
  | c :: r => if r.length < c.toNat then [] else r.drop c.toNat

theorem numR_le (l : List UInt8) : (numR l).length ≤ l.length := by unfold numR; split <;> simp
theorem txtR_le (l : List UInt8) : (txtR l).length ≤ l.length := by
  cases l with
  | nil => simp [txtR]
  | cons c r => simp only [txtR]; split <;> simp <;> omega
theorem txtD_le (l : List UInt8) : (txtD l).length ≤ l.length := by
  cases l with
  | nil => simp [txtD]
  | cons c r => simp only [txtD]; split <;> simp <;> omega
theorem numE_bd (l : List UInt8) : 0 ≤ numE l ∧ numE l ≤ 5 := by
  unfold numE
  split
  · omega
  · split <;> omega
theorem txtE_bd (l : List UInt8) : 0 ≤ txtE l ∧ txtE l ≤ 5 := by
  cases l with
  | nil => simp [txtE]
  | cons c r => unfold txtE; split <;> omega
theorem numV_bd (l : List UInt8) : 0 ≤ numV l ∧ numV l ≤ 1073741824 := by
  unfold numV
  split
  · rename_i h
    have := valN_lt4 l 4 (by omega)
    unfold numE at h
    split at h
    · omega
    split at h
    · omega
    · omega
  · omega

def zeroReq : ReqM := ⟨0, 0, ⟨0, 0, 0, []⟩⟩

/-- P3.3 -/
def reqOf (s : List UInt8) : ReqM := ⟨byteAt s 0, numV (s.drop 4), ⟨byteAt s 1, byteAt s 2, byteAt s 3, txtD (numR (s.drop 4))⟩⟩
def decE (s : List UInt8) : Int :=
  if 40 < s.length then 1
  else if s.length < 4 then 5
  else if numE (s.drop 4) ≠ 0 then numE (s.drop 4)
  else if txtE (numR (s.drop 4)) ≠ 0 then txtE (numR (s.drop 4))
  else if txtR (numR (s.drop 4)) ≠ [] then 4
  else reqFault (reqOf s)
def decR (s : List UInt8) : ReqM := if decE s = 0 then reqOf s else zeroReq

structure LastM where
  num : Int
  rep : ReplyM
def zeroLast : LastM := ⟨0, ⟨0, 0, []⟩⟩
structure StateM where
  vol : VolM
  lasts : List LastM
def zeroSt : StateM := ⟨⟨[], []⟩, []⟩

/-- P3.4 -/
def lastsMay (l : List LastM) : Bool := l.length == 4 && l.all (fun x => decide (0 ≤ x.num) && decide (x.num ≤ 1048576))
def stFault (s : StateM) : Int := if lastsMay s.lasts then volFault s.vol else 8

/-- P3.5 -/
def appE (S : StateM) (s : List UInt8) : Int := if stFault S = 0 then decE s else stFault S
def doneS (S : StateM) (r : ReqM) : StateM :=
  if (S.lasts.getD (r.client - 1).toNat zeroLast).num < r.num then ⟨didV S.vol r.op, S.lasts.set (r.client - 1).toNat ⟨r.num, didR S.vol r.op⟩⟩ else S
def appS (S : StateM) (s : List UInt8) : StateM := if appE S s = 0 then doneS S (reqOf s) else zeroSt
def playS (S : StateM) : List (List UInt8) → StateM
  | [] => S
  | s :: r => if appE S s = 0 then playS (appS S s) r else zeroSt
def playE (S : StateM) : List (List UInt8) → Int
  | [] => 0
  | s :: r => if appE S s = 0 then playE (appS S s) r else appE S s

end Go.Proofs.Ytohehhpccbaclaf

/- The plain mathematics of the codec: what each of its functions answers, as a function on lists of bytes. -/
import Derived.Test.YtmdgkjbiicaljagDoorJointRegRow
namespace Go.Proofs.YtmdgkjbiicaljagDoor

def b8 (n : Int) : UInt8 := UInt8.ofNat (n % 256).toNat

/-- Four bytes, the highest first. -/
def numBytes (n : Int) : List UInt8 := [b8 (n / 16777216), b8 (n / 65536), b8 (n / 256), b8 n]

/-- The first k bytes as a number, the highest first. -/
def valN (l : List UInt8) : Nat → Int
  | 0 => 0
  | k + 1 => 256 * valN l k + ((l.getD k 0).toNat : Int)

theorem valN_bd (l : List UInt8) : ∀ k, 0 ≤ valN l k ∧ valN l k < 256 ^ k
  | 0 => by simp [valN]
  | k + 1 => by
    have := valN_bd l k
    have h2 : ((l.getD k 0).toNat : Int) < 256 := by have := UInt8.toNat_lt (l.getD k 0); omega
    simp only [valN]
    have : (256 : Int) ^ (k + 1) = 256 * 256 ^ k := by rw [Int.pow_succ]; omega
    omega

theorem valN_lt4 (l : List UInt8) (k : Nat) (h : k ≤ 4) : 0 ≤ valN l k ∧ valN l k < 4294967296 := by
  have := valN_bd l k
  refine ⟨this.1, ?_⟩
  match k, h with
  | 0, _ => simp at this; omega
  | 1, _ => simp at this; omega
  | 2, _ => have e : (256 : Int) ^ 2 = 65536 := by decide
            rw [e] at this; omega
  | 3, _ => have e : (256 : Int) ^ 3 = 16777216 := by decide
            rw [e] at this; omega
  | 4, _ => have e : (256 : Int) ^ 4 = 4294967296 := by decide
            rw [e] at this; omega

theorem valN_lt3 (l : List UInt8) (k : Nat) (h : k < 4) : 0 ≤ valN l k ∧ valN l k < 16777216 := by
  have := valN_bd l k
  refine ⟨this.1, ?_⟩
  match k, h with
  | 0, _ => simp at this; omega
  | 1, _ => simp at this; omega
  | 2, _ => have e : (256 : Int) ^ 2 = 65536 := by decide
            rw [e] at this; omega
  | 3, _ => have e : (256 : Int) ^ 3 = 16777216 := by decide
            rw [e] at this; omega

/-- The seal's two numbers. -/
def sealStep (p : Int × Int) (c : UInt8) : Int × Int := ((p.1 + (c.toNat : Int)) % 65521, (p.2 + (p.1 + (c.toNat : Int)) % 65521) % 65521)
def sealTo (l : List UInt8) : Int × Int := l.foldl sealStep (1, 0)
def sealBytes (l : List UInt8) : List UInt8 := [b8 ((sealTo l).2 / 256), b8 (sealTo l).2, b8 ((sealTo l).1 / 256), b8 (sealTo l).1]

theorem sealTo_snoc (l : List UInt8) (c : UInt8) : sealTo (l ++ [c]) = sealStep (sealTo l) c := by simp [sealTo]

theorem sealTo_bd (l : List UInt8) : (0 ≤ (sealTo l).1 ∧ (sealTo l).1 < 65521) ∧ (0 ≤ (sealTo l).2 ∧ (sealTo l).2 < 65521) := by
  have h : ∀ (l : List UInt8) (p : Int × Int), (0 ≤ p.1 ∧ p.1 < 65521) ∧ (0 ≤ p.2 ∧ p.2 < 65521) → (0 ≤ (l.foldl sealStep p).1 ∧ (l.foldl sealStep p).1 < 65521) ∧ (0 ≤ (l.foldl sealStep p).2 ∧ (l.foldl sealStep p).2 < 65521) := by
    intro l
    induction l with
    | nil => intro p h; exact h
    | cons c l ih =>
      intro p h
      apply ih
      simp only [sealStep]
      omega
  exact h l (1, 0) (by simp)

theorem take_snoc' (l : List UInt8) (k : Nat) (h : k < l.length) : l.take (k + 1) = l.take k ++ [l[k]] := by
  rw [List.take_succ_eq_append_getElem h]

theorem b8_toNat (n : Int) : ((b8 n).toNat : Int) = n % 256 := by
  unfold b8
  have h : (n % 256).toNat < 256 := by omega
  simp [UInt8.toNat_ofNat']
  omega

/-- Four bytes read back. -/
theorem valN_num (k : Int) (h0 : 0 ≤ k) (h1 : k ≤ 1073741824) (s : List UInt8) : valN (numBytes k ++ s) 4 = k := by
  have e0 := b8_toNat (k / 16777216)
  have e1 := b8_toNat (k / 65536)
  have e2 := b8_toNat (k / 256)
  have e3 := b8_toNat k
  simp only [valN, numBytes, List.cons_append, List.getD_cons_zero, List.getD_cons_succ]
  omega

theorem drop_num (k : Int) (s : List UInt8) : (numBytes k ++ s).drop 4 = s := rfl
theorem length_num (k : Int) : (numBytes k).length = 4 := rfl

theorem b8_len (t : List UInt8) (h : t.length ≤ 255) : (b8 t.length).toNat = t.length := by
  have := b8_toNat t.length; omega
theorem take_len (t s : List UInt8) (h : t.length ≤ 255) : (t ++ s).take (b8 t.length).toNat = t := by
  rw [b8_len t h]; exact List.take_left
theorem drop_len (t s : List UInt8) (h : t.length ≤ 255) : (t ++ s).drop (b8 t.length).toNat = s := by
  rw [b8_len t h]; exact List.drop_left

def pickN (n m : Int) : Int := (if n < 0 then -(n + 1) else n) % m
theorem pickN_bd (n m : Int) (h : 0 < m) : 0 ≤ pickN n m ∧ pickN n m < m := ⟨Int.emod_nonneg _ (by omega), Int.emod_lt_of_pos _ h⟩

end Go.Proofs.YtmdgkjbiicaljagDoor

/- The plain mathematics of volumes: what each function of package volume answers. -/
namespace Go.Proofs.YtmdgkjbiicaljagDoor

structure OpM where
  kind : Int
  place : Int
  snap : Int
  data : List UInt8

def opFaultN (k p s : Int) (n : Nat) : Int :=
  if k < 1 ∨ 4 < k then 3
  else if p < 0 ∨ 5 < p ∨ s < 0 ∨ 3 < s then 2
  else if (0 < s ∧ k ≠ 3) ∨ (0 < p ∧ k = 4) ∨ (0 < n ∧ k ≠ 1) then 4
  else if 8 < n then 1
  else 0
def opFault (o : OpM) : Int := opFaultN o.kind o.place o.snap o.data.length

structure VolM where
  now : List (List UInt8)
  snaps : List (List (List UInt8))

def secMay (l : List (List UInt8)) : Bool := l.all (fun s => decide (s.length ≤ 8)) && l.length == 6
def volMay (v : VolM) : Bool := secMay v.now && decide (v.snaps.length ≤ 3) && v.snaps.all secMay
def volFault (v : VolM) : Int := if volMay v then 0 else 8

/-- What VolumeFault has found after k snapshots. -/
def volTo (v : VolM) (k : Nat) : Bool := secMay v.now && decide ((v.snaps.length : Int) ≤ 3) && (v.snaps.take k).all secMay
theorem volTo_next (v : VolM) (k : Nat) (h : k < v.snaps.length) : volTo v (k + 1) = (volTo v k && secMay (v.snaps.getD k [])) := by
  unfold volTo
  rw [List.take_succ_eq_append_getElem h, List.all_append]
  simp [List.getD, h, Bool.and_assoc]
theorem volTo_all (v : VolM) (k : Nat) (h : v.snaps.length ≤ k) : volTo v k = volMay v := by
  unfold volTo volMay
  rw [List.take_of_length_le h]
  congr 2
  rw [Bool.eq_iff_iff]
  simp
  omega

structure ReplyM where
  code : Int
  n : Int
  data : List UInt8

/-- P2.3: the volume behind an operation that may be. -/
def didV (v : VolM) (o : OpM) : VolM :=
  if o.kind = 1 then { v with now := v.now.set o.place.toNat o.data }
  else if o.kind = 2 then { v with now := v.now.set o.place.toNat [] }
  else if o.kind = 3 then v
  else if v.snaps.length < 3 then { v with snaps := v.snaps ++ [v.now] }
  else v

/-- P2.3: its reply. -/
def didR (v : VolM) (o : OpM) : ReplyM :=
  if o.kind = 3 then
    if (v.snaps.length : Int) < o.snap then ⟨6, 0, []⟩
    else if 0 < o.snap then ⟨0, 0, (v.snaps.getD (o.snap - 1).toNat []).getD o.place.toNat []⟩
    else ⟨0, 0, v.now.getD o.place.toNat []⟩
  else if o.kind = 4 then
    if v.snaps.length < 3 then ⟨0, v.snaps.length + 1, []⟩ else ⟨7, 0, []⟩
  else ⟨0, 0, []⟩

theorem volMay_of (v : VolM) (h : volFault v = 0) : volMay v = true := by
  unfold volFault at h
  by_cases hm : volMay v = true
  · exact hm
  · rw [if_neg hm] at h; omega

theorem secMay_len {l : List (List UInt8)} (h : secMay l = true) : l.length = 6 ∧ ∀ s ∈ l, s.length ≤ 8 := by
  unfold secMay at h
  simp at h
  exact ⟨h.2, h.1⟩

theorem volMay_len {v : VolM} (h : volMay v = true) : v.now.length = 6 ∧ v.snaps.length ≤ 3 ∧ (∀ l ∈ v.snaps, l.length = 6) := by
  unfold volMay at h
  simp only [Bool.and_eq_true, decide_eq_true_eq, List.all_eq_true] at h
  exact ⟨(secMay_len h.1.1).1, h.1.2, fun l hl => (secMay_len (h.2 l hl)).1⟩

theorem opMay_of (o : OpM) (h : opFault o = 0) : (1 ≤ o.kind ∧ o.kind ≤ 4) ∧ (0 ≤ o.place ∧ o.place ≤ 5) ∧ (0 ≤ o.snap ∧ o.snap ≤ 3) ∧ o.data.length ≤ 8 := by
  unfold opFault opFaultN at h
  split at h
  · omega
  split at h
  · omega
  split at h
  · omega
  split at h
  · omega
  omega

/-- P2.3 whole: what is refused, else what is done. -/
def doE (v : VolM) (o : OpM) : Int := if volFault v = 0 then opFault o else volFault v
def doV (v : VolM) (o : OpM) : VolM := if doE v o = 0 then didV v o else ⟨[], []⟩
def doR (v : VolM) (o : OpM) : ReplyM := if doE v o = 0 then didR v o else ⟨0, 0, []⟩

end Go.Proofs.YtmdgkjbiicaljagDoor

/- The plain mathematics of package machine: requests as entries, states, and what entries do to them. -/
namespace Go.Proofs.YtmdgkjbiicaljagDoor

structure ReqM where
  client : Int
  num : Int
  op : OpM

/-- P3.1 -/
def reqFault (r : ReqM) : Int := if (1 ≤ r.client ∧ r.client ≤ 4) ∧ (1 ≤ r.num ∧ r.num ≤ 1048576) then opFault r.op else 2

theorem reqMay_of (r : ReqM) (h : reqFault r = 0) : (1 ≤ r.client ∧ r.client ≤ 4) ∧ (1 ≤ r.num ∧ r.num ≤ 1048576) ∧ opFault r.op = 0 := by
  unfold reqFault at h
  split at h
  · rename_i h1; exact ⟨h1.1, h1.2, h⟩
  · omega

/-- P3.2: the bytes of a request that may be. -/
def entryB (r : ReqM) : List UInt8 := b8 r.client :: b8 r.op.kind :: b8 r.op.place :: b8 r.op.snap :: (numBytes r.num ++ b8 r.op.data.length :: r.op.data)
def encS (r : ReqM) : List UInt8 := if reqFault r = 0 then entryB r else []

/-- P1.2: a number ahead of bytes. -/
def numE (l : List UInt8) : Int := if l.length < 4 then 5 else if valN l 4 ≤ 1073741824 then 0 else 4
def numV (l : List UInt8) : Int := if numE l = 0 then valN l 4 else 0
def numR (l : List UInt8) : List UInt8 := if numE l = 0 then l.drop 4 else []

/-- P1.2: a text ahead of bytes. -/
def txtE : List UInt8 → Int
  | [] => 5
  | c :: r => if r.length < c.toNat then 5 else 0
def txtD : List UInt8 → List UInt8
  | [] => []
  | c :: r => if r.length < c.toNat then [] else r.take c.toNat
def txtR : List UInt8 → List UInt8
  | [] => []
  | c :: r => if r.length < c.toNat then [] else r.drop c.toNat

theorem numR_le (l : List UInt8) : (numR l).length ≤ l.length := by unfold numR; split <;> simp
theorem txtR_le (l : List UInt8) : (txtR l).length ≤ l.length := by
  cases l with
  | nil => simp [txtR]
  | cons c r => simp only [txtR]; split <;> simp <;> omega
theorem txtD_le (l : List UInt8) : (txtD l).length ≤ l.length := by
  cases l with
  | nil => simp [txtD]
  | cons c r => simp only [txtD]; split <;> simp <;> omega
theorem numE_bd (l : List UInt8) : 0 ≤ numE l ∧ numE l ≤ 5 := by
  unfold numE
  split
  · omega
  · split <;> omega
theorem txtE_bd (l : List UInt8) : 0 ≤ txtE l ∧ txtE l ≤ 5 := by
  cases l with
  | nil => simp [txtE]
  | cons c r => unfold txtE; split <;> omega
theorem numV_bd (l : List UInt8) : 0 ≤ numV l ∧ numV l ≤ 1073741824 := by
  unfold numV
  split
  · rename_i h
    have := valN_lt4 l 4 (by omega)
    unfold numE at h
    split at h
    · omega
    split at h
    · omega
    · omega
  · omega

def zeroReq : ReqM := ⟨0, 0, ⟨0, 0, 0, []⟩⟩

/-- P3.3 -/
def reqOf (s : List UInt8) : ReqM := ⟨byteAt s 0, numV (s.drop 4), ⟨byteAt s 1, byteAt s 2, byteAt s 3, txtD (numR (s.drop 4))⟩⟩
def decE (s : List UInt8) : Int :=
  if 40 < s.length then 1
  else if s.length < 4 then 5
  else if numE (s.drop 4) ≠ 0 then numE (s.drop 4)
  else if txtE (numR (s.drop 4)) ≠ 0 then txtE (numR (s.drop 4))
  else if txtR (numR (s.drop 4)) ≠ [] then 4
  else reqFault (reqOf s)
def decR (s : List UInt8) : ReqM := if decE s = 0 then reqOf s else zeroReq

structure LastM where
  num : Int
  rep : ReplyM
def zeroLast : LastM := ⟨0, ⟨0, 0, []⟩⟩
structure StateM where
  vol : VolM
  lasts : List LastM
def zeroSt : StateM := ⟨⟨[], []⟩, []⟩

/-- P3.4 -/
def lastsMay (l : List LastM) : Bool := l.length == 4 && l.all (fun x => decide (0 ≤ x.num) && decide (x.num ≤ 1048576))
def stFault (s : StateM) : Int := if lastsMay s.lasts then volFault s.vol else 8

/-- P3.5 -/
def appE (S : StateM) (s : List UInt8) : Int := if stFault S = 0 then decE s else stFault S
def doneS (S : StateM) (r : ReqM) : StateM :=
  if (S.lasts.getD (r.client - 1).toNat zeroLast).num < r.num then ⟨didV S.vol r.op, S.lasts.set (r.client - 1).toNat ⟨r.num, didR S.vol r.op⟩⟩ else S
def appS (S : StateM) (s : List UInt8) : StateM := if appE S s = 0 then doneS S (reqOf s) else zeroSt
def playS (S : StateM) : List (List UInt8) → StateM
  | [] => S
  | s :: r => if appE S s = 0 then playS (appS S s) r else zeroSt
def playE (S : StateM) : List (List UInt8) → Int
  | [] => 0
  | s :: r => if appE S s = 0 then playE (appS S s) r else appE S s

end Go.Proofs.YtmdgkjbiicaljagDoor

/- The plain mathematics of volumes: what each function of package volume answers. -/
namespace Go.Proofs.Ytohehhpccbaclaf

structure OpM where
  kind : Int
  place : Int
  snap : Int
  data : List UInt8

def opFaultN (k p s : Int) (n : Nat) : Int :=
  if k < 1 ∨ 4 < k then 3
  else if p < 0 ∨ 5 < p ∨ s < 0 ∨ 3 < s then 2
  else if (0 < s ∧ k ≠ 3) ∨ (0 < p ∧ k = 4) ∨ (0 < n ∧ k ≠ 1) then 4
  else if 8 < n then 1
  else 0
def opFault (o : OpM) : Int := opFaultN o.kind o.place o.snap o.data.length

structure VolM where
  now : List (List UInt8)
  snaps : List (List (List UInt8))

def secMay (l : List (List UInt8)) : Bool := l.all (fun s => decide (s.length ≤ 8)) && l.length == 6
def volMay (v : VolM) : Bool := secMay v.now && decide (v.snaps.length ≤ 3) && v.snaps.all secMay
def volFault (v : VolM) : Int := if volMay v then 0 else 8

/-- What VolumeFault has found after k snapshots. -/
def volTo (v : VolM) (k : Nat) : Bool := secMay v.now && decide ((v.snaps.length : Int) ≤ 3) && (v.snaps.take k).all secMay
theorem volTo_next (v : VolM) (k : Nat) (h : k < v.snaps.length) : volTo v (k + 1) = (volTo v k && secMay (v.snaps.getD k [])) := by
  unfold volTo
  rw [List.take_succ_eq_append_getElem h, List.all_append]
  simp [List.getD, h, Bool.and_assoc]
theorem volTo_all (v : VolM) (k : Nat) (h : v.snaps.length ≤ k) : volTo v k = volMay v := by
  unfold volTo volMay
  rw [List.take_of_length_le h]
  congr 2
  rw [Bool.eq_iff_iff]
  simp
  omega

structure ReplyM where
  code : Int
  n : Int
  data : List UInt8

/-- P2.3: the volume behind an operation that may be. -/
def didV (v : VolM) (o : OpM) : VolM :=
  if o.kind = 1 then { v with now := v.now.set o.place.toNat o.data }
  else if o.kind = 2 then { v with now := v.now.set o.place.toNat [] }
  else if o.kind = 3 then v
  else if v.snaps.length < 3 then { v with snaps := v.snaps ++ [v.now] }
  else v

/-- P2.3: its reply. -/
def didR (v : VolM) (o : OpM) : ReplyM :=
  if o.kind = 3 then
    if (v.snaps.length : Int) < o.snap then ⟨6, 0, []⟩
    else if 0 < o.snap then ⟨0, 0, (v.snaps.getD (o.snap - 1).toNat []).getD o.place.toNat []⟩
    else ⟨0, 0, v.now.getD o.place.toNat []⟩
  else if o.kind = 4 then
    if v.snaps.length < 3 then ⟨0, v.snaps.length + 1, []⟩ else ⟨7, 0, []⟩
  else ⟨0, 0, []⟩

theorem volMay_of (v : VolM) (h : volFault v = 0) : volMay v = true := by
  unfold volFault at h
  by_cases hm : volMay v = true
  · exact hm
  · rw [if_neg hm] at h; omega

theorem secMay_len {l : List (List UInt8)} (h : secMay l = true) : l.length = 6 ∧ ∀ s ∈ l, s.length ≤ 8 := by
  unfold secMay at h
  simp at h
  exact ⟨h.2, h.1⟩

theorem volMay_len {v : VolM} (h : volMay v = true) : v.now.length = 6 ∧ v.snaps.length ≤ 3 ∧ (∀ l ∈ v.snaps, l.length = 6) := by
  unfold volMay at h
  simp only [Bool.and_eq_true, decide_eq_true_eq, List.all_eq_true] at h
  exact ⟨(secMay_len h.1.1).1, h.1.2, fun l hl => (secMay_len (h.2 l hl)).1⟩

theorem opMay_of (o : OpM) (h : opFault o = 0) : (1 ≤ o.kind ∧ o.kind ≤ 4) ∧ (0 ≤ o.place ∧ o.place ≤ 5) ∧ (0 ≤ o.snap ∧ o.snap ≤ 3) ∧ o.data.length ≤ 8 := by
  unfold opFault opFaultN at h
  split at h
  · omega
  split at h
  · omega
  split at h
  · omega
  split at h
  · omega
  omega

/-- P2.3 whole: what is refused, else what is done. -/
def doE (v : VolM) (o : OpM) : Int := if volFault v = 0 then opFault o else volFault v
def doV (v : VolM) (o : OpM) : VolM := if doE v o = 0 then didV v o else ⟨[], []⟩
def doR (v : VolM) (o : OpM) : ReplyM := if doE v o = 0 then didR v o else ⟨0, 0, []⟩

end Go.Proofs.Ytohehhpccbaclaf

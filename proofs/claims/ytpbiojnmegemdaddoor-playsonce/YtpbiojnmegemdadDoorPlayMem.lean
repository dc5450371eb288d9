/- Entries played one by one: the mathematics, and the memory of it. -/
import Derived.Test.YtpbiojnmegemdadDoorSteps
import Derived.Test.YtpbiojnmegemdadDoorMachMem
import Derived.Test.YtpbiojnmegemdadDoorMachFacts
namespace Go.Proofs.YtpbiojnmegemdadDoor
open Go.RowKit
set_option linter.unusedVariables false
set_option linter.unusedSimpArgs false

theorem play_snoc (S : StateM) (l : List (List UInt8)) (s : List UInt8) (h : playE S l = 0) :
    playE S (l ++ [s]) = appE (playS S l) s ∧ playS S (l ++ [s]) = (if appE (playS S l) s = 0 then appS (playS S l) s else zeroSt) := by
  induction l generalizing S with
  | nil =>
    simp only [List.nil_append, playE, playS]
    by_cases h0 : appE S s = 0 <;> simp [h0]
  | cons x l ih =>
    simp only [List.cons_append, playE, playS] at h ⊢
    by_cases h0 : appE S x = 0
    · rw [if_pos h0] at h
      simp only [if_pos h0]
      exact ih _ h
    · rw [if_neg h0] at h
      exact absurd h h0

theorem play_stop (S : StateM) (l : List (List UInt8)) (k : Nat) (h : playE S (l.take k) ≠ 0) : playE S l = playE S (l.take k) ∧ playS S l = zeroSt := by
  induction l generalizing S k with
  | nil => simp [playE] at h
  | cons x l ih =>
    cases k with
    | zero => simp [playE] at h
    | succ k =>
      simp only [List.take_succ_cons, playE, playS] at h ⊢
      by_cases h0 : appE S x = 0
      · simp only [if_pos h0] at h ⊢
        exact ih _ k h
      · simp [h0]

theorem play_fits (S : StateM) (l : List (List UInt8)) (h : StFits S) : StFits (playS S l) := by
  induction l generalizing S with
  | nil => exact h
  | cons x l ih =>
    simp only [playS]
    split
    · exact ih _ (appS_fits S x h)
    · exact zeroSt_fits

theorem StNew.type {w : World} {B b : Nat} {v : Value} {S : StateM} {t : TypeId} {cs : List Value} (h : StNew w B v S) (hb : Box w b t cs) (h1 : 9 ≠ t) (h2 : 36 ≠ t) (h3 : 51 ≠ t) (i : Nat) (x : Value) : StNew (w.setCell ⟨b, i, none⟩ x) B v S := by
  obtain ⟨vn, vs, vl, hv, k1, k2⟩ := h
  exact ⟨vn, vs, vl, hv, k1.type hb h1 h2 i x, own_other k2 (own_type k2 hb h3) x⟩

/-- What holds after k entries. -/
structure PlayInv (w : World) (bS : Nat) (S : StateM) (v1 v2 v3 : Value) (wr : World) : Prop where
  below : Below w.heap.size w wr
  res : Box wr w.heap.size 43 [.slice none 0 0, .slice none 0 0, .slice none 0 0]
  var : Box wr bS 43 [v1, v2, v3]
  st : StNew wr (w.heap.size + 1) (.agg #[v1, v2, v3]) S

/-- What holds behind 'next, e := AppliedOf(s, l[i])'. -/
structure PlayMid (wr : World) (S : StateM) (b6 : Nat) (v1 v2 v3 : Value) (wx : World) : Prop where
  below : Below wr.heap.size wr wx
  next : Box wx b6 43 [v1, v2, v3]
  st : StNew wx wr.heap.size (.agg #[v1, v2, v3]) S
  ge6 : wr.heap.size ≤ b6

theorem playMid_new {wr wL : World} {S : StateM} {v1 v2 v3 : Value} {B : Nat} (hb : Below wr.heap.size wr wL) (hs : StNew wL B (.agg #[v1, v2, v3]) S) (hB : wr.heap.size ≤ B) : PlayMid wr S wL.heap.size v1 v2 v3 (wL.alloc (.cells #[v1, v2, v3] 43)) :=
  ⟨Below.up hb _, Box.new wL _ [v1, v2, v3], (hs.below (below_alloc _ _)).base hB, hb.size⟩
theorem playMid_set {wr wL : World} {S : StateM} {v1 v2 v3 y0 y1 y2 : Value} {B b6 : Nat} (hb : Below wr.heap.size wr wL) (h6 : Box wL b6 43 [y0, y1, y2]) (h36 : wr.heap.size ≤ b6) (hs : StNew wL B (.agg #[v1, v2, v3]) S) (hB : wr.heap.size ≤ B) :
    PlayMid wr S b6 v1 v2 v3 (((wL.setCell ⟨b6, 0, none⟩ v1).setCell ⟨b6, 1, none⟩ v2).setCell ⟨b6, 2, none⟩ v3) := by
  have t1 := h6.set 0 v1
  have t2 := t1.set 1 v2
  exact ⟨((hb.setCell (by simpa using h36) _).setCell (by simpa using h36) _).setCell (by simpa using h36) _, t2.set 2 v3,
    (((hs.type h6 (by decide) (by decide) (by decide) 0 v1).type t1 (by decide) (by decide) (by decide) 1 v2).type t2 (by decide) (by decide) (by decide) 2 v3).base hB, h36⟩

theorem play_next {w wr wx : World} {bS b6 : Nat} {S S' : StateM} {v1 v2 v3 u1 u2 u3 : Value} (I : PlayInv w bS S v1 v2 v3 wr) (M : PlayMid wr S' b6 u1 u2 u3 wx) (hS : w.heap.size < bS) :
    PlayInv w bS S' u1 u2 u3 (((wx.setCell ⟨bS, 0, none⟩ u1).setCell ⟨bS, 1, none⟩ u2).setCell ⟨bS, 2, none⟩ u3) := by
  have hv := I.var.below M.below I.var.lt
  have hr := I.res.below M.below I.res.lt
  have hne : w.heap.size ≠ bS := by omega
  have hl := I.res.lt
  have t1 := hv.set 0 u1
  have t2 := t1.set 1 u2
  have hge : w.heap.size ≤ bS := by omega
  exact ⟨(((Below.far I.below M.below).setCell (by simpa using hge) _).setCell (by simpa using hge) _).setCell (by simpa using hge) _,
    ((hr.other _ (by simpa using hne)).other _ (by simpa using hne)).other _ (by simpa using hne), t2.set 2 u3,
    (((M.st.type hv (by decide) (by decide) (by decide) 0 u1).type t1 (by decide) (by decide) (by decide) 1 u2).type t2 (by decide) (by decide) (by decide) 2 u3).base (by omega)⟩

end Go.Proofs.YtpbiojnmegemdadDoor

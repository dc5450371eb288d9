/- How what is kept lies in memory. -/
import Derived.Test.YtohehhpccbaclafStageMath
import Derived.Test.YtohehhpccbaclafMemKit
namespace Go.Proofs.Ytohehhpccbaclaf
open Go.RowKit Go.WideShapes
set_option linter.unusedVariables false
set_option linter.unusedSimpArgs false

def keptCells (K : KeptM) (vl : Value) : List Value := [.int .i64 K.view, .int .i64 K.normal, .bool K.calm, vl, .int .i64 K.commit]
/-- The value is what is kept. -/
def KeptAt (w : World) (v : Value) (K : KeptM) : Prop := ∃ vl, v = .agg #[.int .i64 K.view, .int .i64 K.normal, .bool K.calm, vl, .int .i64 K.commit] ∧ Strs w vl K.log
theorem KeptAt.below {w w' : World} {v : Value} {K : KeptM} (h : KeptAt w v K) (hb : Below w.heap.size w w') : KeptAt w' v K := by
  obtain ⟨vl, hv, hl⟩ := h
  exact ⟨vl, hv, hl.below hb⟩
/-- In memory of the call's own, from block B on. -/
def KeptNew (w : World) (B : Nat) (v : Value) (K : KeptM) : Prop := ∃ vl, v = .agg #[.int .i64 K.view, .int .i64 K.normal, .bool K.calm, vl, .int .i64 K.commit] ∧ w.ownsRow B 9 1 vl K.log.length (K.log.map enc)
theorem KeptNew.below {w w' : World} {B : Nat} {v : Value} {K : KeptM} (h : KeptNew w B v K) (hb : Below w.heap.size w w') : KeptNew w' B v K := by
  obtain ⟨vl, hv, hl⟩ := h
  exact ⟨vl, hv, own_below hl hb (own_lt hl)⟩
theorem KeptNew.base {w : World} {B B' : Nat} {v : Value} {K : KeptM} (h : KeptNew w B v K) (hb : B' ≤ B) : KeptNew w B' v K := by
  obtain ⟨vl, hv, hl⟩ := h
  exact ⟨vl, hv, own_base hl hb⟩
theorem KeptNew.other {w : World} {B : Nat} {v : Value} {K : KeptM} (h : KeptNew w B v K) {a : Addr} (ha : a.block < B) (x : Value) : KeptNew (w.setCell a x) B v K := by
  obtain ⟨vl, hv, hl⟩ := h
  exact ⟨vl, hv, ownsRow_setCell_below hl ha x⟩
theorem KeptNew.nil (w : World) (B : Nat) : KeptNew w B (.agg #[.int .i64 0, .int .i64 0, .bool false, .slice none 0 0, .int .i64 0]) zeroKept := ⟨_, rfl, World.ownsRow_nil _ _ _ _⟩
theorem KeptNew.at {w : World} {B : Nat} {v : Value} {K : KeptM} (h : KeptNew w B v K) (h1 : K.log.length ≤ 140737488355328) (h2 : ∀ s ∈ K.log, s.length ≤ 140737488355328) : KeptAt w v K := by
  obtain ⟨vl, hv, hl⟩ := h
  exact ⟨vl, hv, Strs.of_own hl h1 h2⟩
theorem KeptAt.bounds {w : World} {v : Value} {K : KeptM} (h : KeptAt w v K) : K.log.length ≤ 140737488355328 ∧ ∀ s ∈ K.log, s.length ≤ 140737488355328 := by
  obtain ⟨vl, hv, hl⟩ := h
  exact hl.bounds
theorem KeptNew.form {w : World} {B : Nat} {v : Value} {K : KeptM} (h : KeptNew w B v K) : ∃ a c, v = .agg #[.int .i64 K.view, .int .i64 K.normal, .bool K.calm, .slice a K.log.length c, .int .i64 K.commit] := by
  obtain ⟨vl, hv, hl⟩ := h
  rcases hl.2 with ⟨rfl, h0⟩ | ⟨g, cap, cur, rfl, _⟩
  · exact ⟨none, 0, by rw [hv, h0]⟩
  · exact ⟨_, _, hv⟩
/-- A store into a block of another type. -/
theorem KeptNew.type {w : World} {B b : Nat} {v : Value} {K : KeptM} {t : TypeId} {cs : List Value} (h : KeptNew w B v K) (hb : Box w b t cs) (h1 : 9 ≠ t) (i : Nat) (x : Value) : KeptNew (w.setCell ⟨b, i, none⟩ x) B v K := by
  obtain ⟨vl, hv, hl⟩ := h
  exact ⟨vl, hv, own_other hl (own_type hl hb h1) x⟩

end Go.Proofs.Ytohehhpccbaclaf

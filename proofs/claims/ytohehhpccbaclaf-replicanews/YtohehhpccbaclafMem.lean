/- How lists of strings lie in memory, and what keeps them there. -/
import Derived.Test.YtohehhpccbaclafBase
namespace Go.Proofs.Ytohehhpccbaclaf
open Go.RowKit

/-- The value is a slice over the strings l. -/
def Strs (w : World) (v : Value) (l : List (List UInt8)) : Prop :=
  ∃ a cap, v = .slice a l.length cap ∧ l.length ≤ 140737488355328 ∧ ∀ i, i < l.length → ∃ b o, a = some ⟨b, o, none⟩ ∧ w.cell? ⟨b, o + i, none⟩ = some (.string ⟨(l.getD i []).toArray⟩) ∧ (l.getD i []).length ≤ 140737488355328

theorem Strs.drewN {w : World} {v : Value} {l : List (List UInt8)} (h : Strs w v l) (n : Nat) : Strs (w.drewN n) v l := h

theorem lt_of_cell {w : World} {b o : Nat} {v : Value} (h : w.cell? ⟨b, o, none⟩ = some v) : b < w.heap.size := by
  unfold World.cell? at h
  by_cases hb : b < w.heap.size
  · exact hb
  · simp [Array.getElem?_eq_none (Nat.le_of_not_lt hb)] at h

theorem Strs.below {w w' : World} {v : Value} {l : List (List UInt8)} (h : Strs w v l) (hb : Below w.heap.size w w') : Strs w' v l := by
  obtain ⟨a, cap, hv, hl, hc⟩ := h
  refine ⟨a, cap, hv, hl, fun i hi => ?_⟩
  obtain ⟨b, o, ha, hcell, hs⟩ := hc i hi
  exact ⟨b, o, ha, by rw [hb.cell (p := ⟨b, o + i, none⟩) (lt_of_cell hcell)]; exact hcell, hs⟩

/-- The value is a slice over lists of strings. -/
def Strss (w : World) (v : Value) (ll : List (List (List UInt8))) : Prop :=
  ∃ a cap, v = .slice a ll.length cap ∧ ll.length ≤ 140737488355328 ∧ ∀ i, i < ll.length → ∃ b o u, a = some ⟨b, o, none⟩ ∧ w.cell? ⟨b, o + i, none⟩ = some u ∧ Strs w u (ll.getD i [])

theorem Strss.below {w w' : World} {v : Value} {l : List (List (List UInt8))} (h : Strss w v l) (hb : Below w.heap.size w w') : Strss w' v l := by
  obtain ⟨a, cap, hv, hl, hc⟩ := h
  refine ⟨a, cap, hv, hl, fun i hi => ?_⟩
  obtain ⟨b, o, u, ha, hcell, hs⟩ := hc i hi
  exact ⟨b, o, u, ha, by rw [hb.cell (p := ⟨b, o + i, none⟩) (lt_of_cell hcell)]; exact hcell, hs.below hb⟩

theorem take_next {α : Type} {x y : List α} {k : Nat} {d : α} (h : x.take k = y.take k) (hx : k < x.length) (hy : k < y.length) (e : x.getD k d = y.getD k d) : x.take (k + 1) = y.take (k + 1) := by
  rw [List.take_succ_eq_append_getElem hx, List.take_succ_eq_append_getElem hy, h]
  simp [List.getD, hx, hy] at e
  rw [e]

end Go.Proofs.Ytohehhpccbaclaf

/- What is left of a state's memory behind the stores into a client's last and into the result. -/
import Derived.Test.YtpbiojnmegemdadDoorSteps
import Derived.Test.YtpbiojnmegemdadDoorMachMem
namespace Go.Proofs.YtpbiojnmegemdadDoor
open Go.RowKit
set_option linter.unusedVariables false
set_option linter.unusedSimpArgs false

/-- The stores into a client's last, and into the result. -/
theorem app_fin {w w6 : World} {B5 B g c3 i : Nat} {v5 v6 : Value} {V' : VolM} {L : List LastM} (x : LastM) (n2 : VolNew w6 B5 (.agg #[v5, v6]) V')
    (l2 : w6.ownsRow B 51 4 (.slice (some ⟨g, 0, none⟩) L.length c3) L.length (lastsCells L)) (h5 : w.heap.size + 1 < B5) (hB : w.heap.size + 1 < B) (hb : Below w.heap.size w w6) (t0 t1 t2 : Value) :
    StNew (((((((w6.setCell ⟨g, i * 4, none⟩ (.int .i64 x.num)).setCell ⟨g, i * 4 + 1, none⟩ (.int .i64 x.rep.code)).setCell ⟨g, i * 4 + 2, none⟩ (.int .i64 x.rep.n)).setCell ⟨g, i * 4 + 3, none⟩ (.string ⟨x.rep.data.toArray⟩)).setCell ⟨w.heap.size + 1, 0, none⟩ t0).setCell ⟨w.heap.size + 1, 1, none⟩ t1).setCell ⟨w.heap.size + 1, 2, none⟩ t2) w.heap.size
      (.agg #[v5, v6, .slice (some ⟨g, 0, none⟩) L.length c3]) ⟨V', L.set i x⟩ ∧
    Below w.heap.size w (((((((w6.setCell ⟨g, i * 4, none⟩ (.int .i64 x.num)).setCell ⟨g, i * 4 + 1, none⟩ (.int .i64 x.rep.code)).setCell ⟨g, i * 4 + 2, none⟩ (.int .i64 x.rep.n)).setCell ⟨g, i * 4 + 3, none⟩ (.string ⟨x.rep.data.toArray⟩)).setCell ⟨w.heap.size + 1, 0, none⟩ t0).setCell ⟨w.heap.size + 1, 1, none⟩ t1).setCell ⟨w.heap.size + 1, 2, none⟩ t2) := by
  have key : ∀ {W : World} {xs : List Value} (k : Nat) (y : Value), VolNew W B5 (.agg #[v5, v6]) V' → W.ownsRow B 51 4 (.slice (some ⟨g, 0, none⟩) L.length c3) L.length xs →
      VolNew (W.setCell ⟨g, k, none⟩ y) B5 (.agg #[v5, v6]) V' ∧ (W.setCell ⟨g, k, none⟩ y).ownsRow B 51 4 (.slice (some ⟨g, 0, none⟩) L.length c3) L.length (xs.set k y) := fun k y h1 h2 =>
    ⟨h1.apart (fun e z m zs he hz => own_types hz h2 (by rcases he with rfl | rfl <;> decide) rfl) k y, own_set h2 k y⟩
  obtain ⟨n3, l3⟩ := key (i * 4) (.int .i64 x.num) n2 l2
  obtain ⟨n4, l4⟩ := key (i * 4 + 1) (.int .i64 x.rep.code) n3 l3
  obtain ⟨n5, l5⟩ := key (i * 4 + 2) (.int .i64 x.rep.n) n4 l4
  obtain ⟨n6, l6⟩ := key (i * 4 + 3) (.string ⟨x.rep.data.toArray⟩) n5 l5
  rw [← lastsCells_set] at l6
  have hg := own_ge l2 g rfl
  refine ⟨⟨_, _, _, rfl, (((n6.other (a := ⟨w.heap.size + 1, 0, none⟩) (by simpa using h5) t0).other (a := ⟨w.heap.size + 1, 1, none⟩) (by simpa using h5) t1).other (a := ⟨w.heap.size + 1, 2, none⟩) (by simpa using h5) t2).base (by omega), ?_⟩, ?_⟩
  · have l7 := own_base (ownsRow_setCell_below (ownsRow_setCell_below (ownsRow_setCell_below l6 (a := ⟨w.heap.size + 1, 0, none⟩) (by simpa using hB) t0) (a := ⟨w.heap.size + 1, 1, none⟩) (by simpa using hB) t1) (a := ⟨w.heap.size + 1, 2, none⟩) (by simpa using hB) t2) (base' := w.heap.size) (by omega)
    simpa using l7
  · have hgw : w.heap.size ≤ g := by omega
    exact ((((((hb.setCell (by simpa using hgw) _).setCell (by simpa using hgw) _).setCell (by simpa using hgw) _).setCell (by simpa using hgw) _).setCell (by simp) _).setCell (by simp) _).setCell (by simp) _

end Go.Proofs.YtpbiojnmegemdadDoor

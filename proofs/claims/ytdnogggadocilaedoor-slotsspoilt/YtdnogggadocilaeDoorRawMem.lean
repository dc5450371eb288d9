/- Raw things in memory. -/
import Derived.Test.YtdnogggadocilaeDoorKeepOp
namespace Go.Proofs.YtdnogggadocilaeDoor
open Go.RowKit
set_option linter.unusedVariables false

/-- A slice of raw things. -/
def Raws (w : World) (v : Value) (l : List RawM) : Prop :=
  ∃ a cap, v = .slice a l.length cap ∧ l.length ≤ 140737488355328 ∧ ∀ i, i < l.length → ∃ b o, a = some ⟨b, o, none⟩ ∧ RawIn (l.getD i ⟨0, 0, 0, 0⟩) ∧
    w.cell? ⟨b, o + i * 4, none⟩ = some (.int .i64 (l.getD i ⟨0, 0, 0, 0⟩).kind) ∧ w.cell? ⟨b, o + i * 4 + 1, none⟩ = some (.int .i64 (l.getD i ⟨0, 0, 0, 0⟩).a) ∧
    w.cell? ⟨b, o + i * 4 + 2, none⟩ = some (.int .i64 (l.getD i ⟨0, 0, 0, 0⟩).b) ∧ w.cell? ⟨b, o + i * 4 + 3, none⟩ = some (.int .i64 (l.getD i ⟨0, 0, 0, 0⟩).c)

theorem Raws.below {w w' : World} {v : Value} {l : List RawM} (h : Raws w v l) (hb : Below w.heap.size w w') : Raws w' v l := by
  obtain ⟨a, cap, hv, hl, hc⟩ := h
  refine ⟨a, cap, hv, hl, fun i hi => ?_⟩
  obtain ⟨b, o, ha, hr, c0, c1, c2, c3⟩ := hc i hi
  have lt := lt_of_cell c0
  exact ⟨b, o, ha, hr, (hb.cell (p := ⟨b, _, none⟩) lt).trans c0, (hb.cell (p := ⟨b, _, none⟩) lt).trans c1, (hb.cell (p := ⟨b, _, none⟩) lt).trans c2, (hb.cell (p := ⟨b, _, none⟩) lt).trans c3⟩

end Go.Proofs.YtdnogggadocilaeDoor

/- Requests and states as a row reads them. -/
import Derived.Test.YtpbiojnmegemdacVolRead
import Derived.Test.YtpbiojnmegemdacMachMem
namespace Go.Proofs.Ytpbiojnmegemdac
open Go.ChangeShapes Go.WideShapes Go.ChangeAt Go.RowKit Go.Deep
set_option linter.unusedVariables false
set_option linter.unusedSimpArgs false

theorem cellsReq : Try.prog.cellsOf 25 = 6 := by kernel_rfl

theorem read_req {H : Type} {enc : TypeId × Value → H} {W : World} {fuel : Nat} {cs : List Value} {x : DataW H × List MemPlace}
    (h : DataW.trod enc Try.prog W 0 (fun _ => true) true fuel 25 cs = some x) (hw : Within Try.prog 25 x.1) : ∃ r : ReqM, cs = reqCells r ∧ r.op.data.length ≤ 140737488351232 := by
  obtain ⟨hl, hf⟩ := read_struct Try.underlying25 h hw
  rw [cellsReq] at hl
  match cs, hl with
  | [c0, c1, c2, c3, c4, c5], _ =>
    obtain ⟨n0, y0, h0, _⟩ := hf 0 _ rfl
    obtain ⟨n1, y1, h1, _⟩ := hf 1 _ rfl
    obtain ⟨n2, y2, h2, w2⟩ := hf 2 _ rfl
    simp [cellsInt, cellsOp] at h0 h1 h2
    obtain ⟨c, e0, _⟩ := read_int Try.underlying3 h0
    obtain ⟨n, e1, _⟩ := read_int Try.underlying3 h1
    obtain ⟨o, e2, hd⟩ := read_op h2 w2
    simp at e0 e1
    simp [opCells] at e2
    obtain ⟨e2, e3, e4, e5⟩ := e2
    subst e0 e1 e2 e3 e4 e5
    exact ⟨⟨c, n, o⟩, rfl, hd⟩

theorem arg_req {H : Type} {enc : TypeId × Value → H} {W : World} {fuel : Nat} {cs : Array Value} {x : DataW H × List MemPlace}
    (h : DataW.trod enc Try.prog W 0 (fun _ => true) true fuel 25 (Value.agg cs).cells.toList = some x) (hw : Within Try.prog 25 x.1) : ∃ r : ReqM, .agg cs = reqVal r ∧ r.op.data.length ≤ 140737488351232 := by
  obtain ⟨r, h1, h2⟩ := read_req h hw
  have h3 : cs.toList = reqCells r := h1
  refine ⟨r, ?_, h2⟩
  have : cs = (reqCells r).toArray := by rw [← h3]
  rw [this]
  rfl

end Go.Proofs.Ytpbiojnmegemdac

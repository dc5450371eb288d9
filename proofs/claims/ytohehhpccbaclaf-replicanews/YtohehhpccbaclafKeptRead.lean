/- What is kept, as a row reads it. -/
import Derived.Test.YtohehhpccbaclafRead
import Derived.Test.YtohehhpccbaclafStageMem
namespace Go.Proofs.Ytohehhpccbaclaf
open Go.ChangeShapes Go.WideShapes Go.ChangeAt Go.RowKit Go.Deep
set_option linter.unusedVariables false
set_option linter.unusedSimpArgs false

theorem cellsIntK : Try.prog.cellsOf 3 = 1 := by kernel_rfl
theorem cellsBoolK : Try.prog.cellsOf 4 = 1 := by kernel_rfl
theorem cellsStrsK : Try.prog.cellsOf 22 = 1 := by kernel_rfl
theorem cellsKept : Try.prog.cellsOf 24 = 5 := by kernel_rfl

set_option maxRecDepth 10000 in
theorem read_kept {H : Type} {enc : TypeId × Value → H} {W : World} {fuel : Nat} {cs : List Value} {x : DataW H × List MemPlace}
    (h : DataW.trod enc Try.prog W 0 (fun _ => true) true fuel 24 cs = some x) (hw : Within Try.prog 24 x.1) : ∃ K : KeptM, KeptAt W (.agg cs.toArray) K ∧ K.log.length * 16 ≤ 140737488351232 := by
  obtain ⟨hl, hf⟩ := read_struct Try.underlying24 h hw
  rw [cellsKept] at hl
  match cs, hl with
  | [c0, c1, c2, c3, c4], _ =>
    obtain ⟨n0, y0, h0, _⟩ := hf 0 _ rfl
    obtain ⟨n1, y1, h1, _⟩ := hf 1 _ rfl
    obtain ⟨n2, y2, h2, _⟩ := hf 2 _ rfl
    obtain ⟨n3, y3, h3, w3⟩ := hf 3 _ rfl
    obtain ⟨n4, y4, h4, _⟩ := hf 4 _ rfl
    simp [cellsIntK, cellsBoolK, cellsStrsK] at h0 h1 h2 h3 h4
    obtain ⟨v, e0, _⟩ := read_int Try.underlying3 h0
    obtain ⟨n, e1, _⟩ := read_int Try.underlying3 h1
    obtain ⟨b, e2⟩ := read_bool Try.underlying4 h2
    obtain ⟨vl, l, e3, hs, hz⟩ := read_strs h3 w3
    obtain ⟨c, e4, _⟩ := read_int Try.underlying3 h4
    simp at e0 e1 e2 e3 e4
    subst e0 e1 e2 e3 e4
    exact ⟨⟨v, n, b, l, c⟩, ⟨_, rfl, hs⟩, hz⟩

set_option maxRecDepth 10000 in
theorem arg_kept {H : Type} {enc : TypeId × Value → H} {W : World} {fuel : Nat} {cs : Array Value} {x : DataW H × List MemPlace}
    (h : DataW.trod enc Try.prog W 0 (fun _ => true) true fuel 24 (Value.agg cs).cells.toList = some x) (hw : Within Try.prog 24 x.1) : ∃ K : KeptM, KeptAt W (.agg cs) K ∧ K.log.length * 16 ≤ 140737488351232 :=
  read_kept h hw

end Go.Proofs.Ytohehhpccbaclaf

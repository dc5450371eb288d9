/- How lists of raw things are read off an argument; the tables of the library's own packages. -/
import Derived.Test.YtdnogggadocilaeDoorRawMem
import Derived.Test.YtdnogggadocilaeDoorRead
import Derived.WalkKit
import Derived.ProofKit
import Derived.Lib.LaidTab
namespace Go.Proofs.YtdnogggadocilaeDoor
open Go.ChangeShapes Go.WideShapes Go.ChangeAt Go.RowKit Go.Deep
set_option linter.unusedVariables false
set_option linter.unusedSimpArgs false

theorem cellsIntD : Tryd.prog.cellsOf 3 = 1 := by kernel_rfl
theorem cellsRaw : Tryd.prog.cellsOf 68 = 4 := by kernel_rfl
theorem bytesRaw : Tryd.prog.bytesOf 68 = 32 := by kernel_rfl

set_option maxRecDepth 4000 in
theorem read_raw {H : Type} {enc : TypeId × Value → H} {W : World} {fuel : Nat} {cs : List Value} {x : DataW H × List MemPlace}
    (h : DataW.trod enc Tryd.prog W 0 (fun _ => true) true fuel 68 cs = some x) (hw : Within Tryd.prog 68 x.1) : ∃ r : RawM, cs = rawCells r ∧ RawIn r := by
  obtain ⟨hl, hf⟩ := read_struct Tryd.underlying68 h hw
  rw [cellsRaw] at hl
  match cs, hl with
  | [c0, c1, c2, c3], _ =>
    obtain ⟨n0, y0, h0, _⟩ := hf 0 _ rfl
    obtain ⟨n1, y1, h1, _⟩ := hf 1 _ rfl
    obtain ⟨n2, y2, h2, _⟩ := hf 2 _ rfl
    obtain ⟨n3, y3, h3, _⟩ := hf 3 _ rfl
    simp [cellsIntD] at h0 h1 h2 h3
    obtain ⟨k, e0, i0⟩ := read_int Tryd.underlying3 h0
    obtain ⟨a, e1, i1⟩ := read_int Tryd.underlying3 h1
    obtain ⟨b, e2, i2⟩ := read_int Tryd.underlying3 h2
    obtain ⟨c, e3, i3⟩ := read_int Tryd.underlying3 h3
    simp at e0 e1 e2 e3
    subst e0 e1 e2 e3
    exact ⟨⟨k, a, b, c⟩, rfl, ⟨i0.1, i0.2, i1.1, i1.2, i2.1, i2.2, i3.1, i3.2⟩⟩

set_option maxRecDepth 4000 in
theorem read_raws {H : Type} {enc : TypeId × Value → H} {W : World} {fuel : Nat} {v : Value} {x : DataW H × List MemPlace}
    (h : DataW.trod enc Tryd.prog W 0 (fun _ => true) true fuel 22 [v] = some x) (hw : Within Tryd.prog 22 x.1) : ∃ l, Raws W v l := by
  letI : Inhabited RawM := ⟨⟨0, 0, 0, 0⟩⟩
  obtain ⟨a, cap, l, hv, hb, hc⟩ := read_slice (fun C (y : RawM) => C = rawCells y ∧ RawIn y) Tryd.underlying22 (by rw [cellsRaw]; decide) (fun fuel cs x h1 h2 => read_raw h1 h2) h hw
  rw [bytesRaw] at hb
  refine ⟨l, a, cap, by simpa using hv, by omega, fun i hi => ?_⟩
  obtain ⟨b, o, C, ha, _, ⟨hC, hr⟩, hcell⟩ := hc i hi
  rw [cellsRaw] at hcell
  subst hC
  exact ⟨b, o, ha, hr, hcell 0 _ rfl, hcell 1 _ rfl, hcell 2 _ rfl, hcell 3 _ rfl⟩

theorem gPow : Tryd.prog.globalNamed "internal/strconv.uint64pow10" = some 0 := by kernel_rfl
theorem gPowType : (Tryd.prog.globals[0]?).map (·.type) = some 99 := by kernel_rfl
theorem cellsPow : Tryd.prog.cellsOf 99 = 20 := by kernel_rfl
theorem cellsU64 : Tryd.prog.cellsOf 93 = 1 := by kernel_rfl

def laying (cs : Array Value) : Obj → Obj
  | .cells _ t frozen => .cells cs t frozen
  | o => o

end Go.Proofs.YtdnogggadocilaeDoor

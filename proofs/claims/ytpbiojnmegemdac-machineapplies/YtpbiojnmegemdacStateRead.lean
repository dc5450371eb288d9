/- States as a row reads them. -/
import Derived.Test.YtpbiojnmegemdacMachRead
namespace Go.Proofs.Ytpbiojnmegemdac
open Go.ChangeShapes Go.WideShapes Go.ChangeAt Go.RowKit Go.Deep
set_option linter.unusedVariables false
set_option linter.unusedSimpArgs false

theorem cellsLast : Try.prog.cellsOf 64 = 4 := by kernel_rfl
theorem cellsReply : Try.prog.cellsOf 62 = 3 := by kernel_rfl
theorem cellsErrno : Try.prog.cellsOf 26 = 1 := by kernel_rfl
theorem cellsLasts : Try.prog.cellsOf 38 = 1 := by kernel_rfl
theorem cellsState : Try.prog.cellsOf 40 = 3 := by kernel_rfl
theorem bytesOfLast : Try.prog.bytesOf 64 = 40 := by kernel_rfl

theorem read_last {H : Type} {enc : TypeId × Value → H} {W : World} {fuel : Nat} {cs : List Value} {x : DataW H × List MemPlace}
    (h : DataW.trod enc Try.prog W 0 (fun _ => true) true fuel 64 cs = some x) (hw : Within Try.prog 64 x.1) : ∃ l : LastM, cs = lastCells l ∧ l.rep.data.length ≤ 140737488351232 := by
  obtain ⟨hl, hf⟩ := read_struct Try.underlying64 h hw
  rw [cellsLast] at hl
  match cs, hl with
  | [c0, c1, c2, c3], _ =>
    obtain ⟨n0, y0, h0, _⟩ := hf 0 _ rfl
    obtain ⟨n1, y1, h1, w1⟩ := hf 1 _ rfl
    simp [cellsInt, cellsReply] at h0 h1
    obtain ⟨n, e0, _⟩ := read_int Try.underlying3 h0
    obtain ⟨_, hg⟩ := read_struct Try.underlying62 h1 w1
    obtain ⟨m0, z0, k0, _⟩ := hg 0 _ rfl
    obtain ⟨m1, z1, k1, _⟩ := hg 1 _ rfl
    obtain ⟨m2, z2, k2, v2⟩ := hg 2 _ rfl
    simp [cellsInt, cellsStr, cellsErrno] at k0 k1 k2
    obtain ⟨a, e1, _⟩ := read_int Try.underlying26 k0
    obtain ⟨b, e2, _⟩ := read_int Try.underlying3 k1
    obtain ⟨d, e3, hd⟩ := read_str Try.underlying9 k2 v2
    simp at e0 e1 e2 e3
    subst e0 e1 e2 e3
    exact ⟨⟨n, ⟨a, b, d⟩⟩, rfl, hd⟩

theorem read_lasts {H : Type} {enc : TypeId × Value → H} {W : World} {fuel : Nat} {cs : List Value} {x : DataW H × List MemPlace}
    (h : DataW.trod enc Try.prog W 0 (fun _ => true) true fuel 38 cs = some x) (hw : Within Try.prog 38 x.1) : ∃ v l, cs = [v] ∧ LastsAt W v l := by
  letI : Inhabited LastM := ⟨zeroLast⟩
  obtain ⟨a, cap, l, rfl, hb, hc⟩ := read_slice (fun C (y : LastM) => C = lastCells y ∧ y.rep.data.length ≤ 140737488351232) Try.underlying38 (by rw [cellsLast]; decide) (fun fuel cs x h1 h2 => read_last h1 h2) h hw
  rw [bytesOfLast] at hb
  refine ⟨_, l, rfl, ⟨a, cap, rfl, by omega, fun i hi => ?_⟩⟩
  obtain ⟨b, o, C, ha, _, ⟨hC, hl⟩, hcell⟩ := hc i hi
  have hd : (default : LastM) = zeroLast := rfl
  rw [hd] at hC hl
  subst hC
  rw [cellsLast] at hcell
  exact ⟨b, o, ha, by simpa using hcell 0 _ rfl, hcell 1 _ rfl, hcell 2 _ rfl, hcell 3 _ rfl, by omega⟩

theorem read_state {H : Type} {enc : TypeId × Value → H} {W : World} {fuel : Nat} {cs : List Value} {x : DataW H × List MemPlace}
    (h : DataW.trod enc Try.prog W 0 (fun _ => true) true fuel 40 cs = some x) (hw : Within Try.prog 40 x.1) : ∃ S : StateM, StAt W (.agg cs.toArray) S ∧ StFits S := by
  obtain ⟨hl, hf⟩ := read_struct Try.underlying40 h hw
  rw [cellsState] at hl
  match cs, hl with
  | [c0, c1, c2], _ =>
    obtain ⟨n0, y0, h0, w0⟩ := hf 0 _ rfl
    obtain ⟨n1, y1, h1, w1⟩ := hf 1 _ rfl
    simp [cellsVol, cellsLasts] at h0 h1
    obtain ⟨V, hV, hz⟩ := read_vol h0 w0
    obtain ⟨v, l, e1, hL⟩ := read_lasts h1 w1
    simp at e1
    subst e1
    have hS : StAt W (.agg #[c0, c1, c2]) ⟨V, l⟩ := ⟨_, _, _, rfl, hV, hL⟩
    exact ⟨⟨V, l⟩, hS, hS.fits hz⟩

theorem arg_state {H : Type} {enc : TypeId × Value → H} {W : World} {fuel : Nat} {cs : Array Value} {x : DataW H × List MemPlace}
    (h : DataW.trod enc Try.prog W 0 (fun _ => true) true fuel 40 (Value.agg cs).cells.toList = some x) (hw : Within Try.prog 40 x.1) : ∃ S : StateM, StAt W (.agg cs) S ∧ StFits S :=
  read_state h hw

end Go.Proofs.Ytpbiojnmegemdac

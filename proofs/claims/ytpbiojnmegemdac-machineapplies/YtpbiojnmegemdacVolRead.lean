/- Operations and volumes as a row reads them. -/
import Derived.Test.YtpbiojnmegemdacRead
import Derived.Test.YtpbiojnmegemdacVolMem
namespace Go.Proofs.Ytpbiojnmegemdac
open Go.ChangeShapes Go.WideShapes Go.ChangeAt Go.RowKit Go.Deep
set_option linter.unusedVariables false
set_option linter.unusedSimpArgs false

theorem cellsInt : Try.prog.cellsOf 3 = 1 := by kernel_rfl
theorem cellsStr : Try.prog.cellsOf 9 = 1 := by kernel_rfl
theorem cellsStrs : Try.prog.cellsOf 34 = 1 := by kernel_rfl
theorem cellsStrss : Try.prog.cellsOf 35 = 1 := by kernel_rfl
theorem cellsOp : Try.prog.cellsOf 23 = 4 := by kernel_rfl
theorem cellsVol : Try.prog.cellsOf 37 = 2 := by kernel_rfl


theorem read_op {H : Type} {enc : TypeId × Value → H} {W : World} {fuel : Nat} {cs : List Value} {x : DataW H × List MemPlace}
    (h : DataW.trod enc Try.prog W 0 (fun _ => true) true fuel 23 cs = some x) (hw : Within Try.prog 23 x.1) : ∃ o : OpM, cs = opCells o ∧ o.data.length ≤ 140737488351232 := by
  obtain ⟨hl, hf⟩ := read_struct Try.underlying23 h hw
  rw [cellsOp] at hl
  match cs, hl with
  | [c0, c1, c2, c3], _ =>
    obtain ⟨n0, y0, h0, _⟩ := hf 0 _ rfl
    obtain ⟨n1, y1, h1, _⟩ := hf 1 _ rfl
    obtain ⟨n2, y2, h2, _⟩ := hf 2 _ rfl
    obtain ⟨n3, y3, h3, w3⟩ := hf 3 _ rfl
    simp [cellsInt, cellsStr] at h0 h1 h2 h3
    obtain ⟨k, e0, _⟩ := read_int Try.underlying3 h0
    obtain ⟨p, e1, _⟩ := read_int Try.underlying3 h1
    obtain ⟨s, e2, _⟩ := read_int Try.underlying3 h2
    obtain ⟨d, e3, hd⟩ := read_str Try.underlying9 h3 w3
    simp at e0 e1 e2 e3
    subst e0 e1 e2 e3
    exact ⟨⟨k, p, s, d⟩, rfl, hd⟩

theorem read_strss {H : Type} {enc : TypeId × Value → H} {W : World} {fuel : Nat} {cs : List Value} {x : DataW H × List MemPlace}
    (h : DataW.trod enc Try.prog W 0 (fun _ => true) true fuel 35 cs = some x) (hw : Within Try.prog 35 x.1) : ∃ v l, cs = [v] ∧ Strss W v l ∧ l.length * 24 ≤ 140737488351232 ∧ ∀ s ∈ l, s.length * 16 ≤ 140737488351232 := by
  have b1 : Try.prog.bytesOf 34 = 24 := by kernel_rfl
  obtain ⟨a, cap, l, rfl, hb, hc⟩ := read_slice (fun C (y : List (List UInt8)) => ∃ v, C = [v] ∧ Strs W v y ∧ y.length * 16 ≤ 140737488351232) Try.underlying35 (by rw [cellsStrs]; decide) (fun fuel cs x h1 h2 => by
    obtain ⟨v, l, e1, e2, e3⟩ := read_strs h1 h2
    exact ⟨l, v, e1, e2, e3⟩) h hw
  rw [b1] at hb
  have hd : (default : List (List UInt8)) = [] := rfl
  refine ⟨_, l, rfl, ⟨a, cap, rfl, by omega, fun i hi => ?_⟩, hb, fun s hs => ?_⟩
  · obtain ⟨b, o, C, ha, _, ⟨v, hC, hv, _⟩, hcell⟩ := hc i hi
    rw [hd] at hv
    refine ⟨b, o, v, ha, ?_, hv⟩
    have := hcell 0 v (by rw [hC]; rfl)
    rw [cellsStrs, Nat.mul_one, Nat.add_zero] at this
    exact this
  · obtain ⟨i, hi, rfl⟩ := List.mem_iff_getElem.1 hs
    obtain ⟨_, _, _, _, _, ⟨_, _, _, h3⟩, _⟩ := hc i hi
    simpa [List.getD, hi] using h3

theorem read_vol {H : Type} {enc : TypeId × Value → H} {W : World} {fuel : Nat} {cs : List Value} {x : DataW H × List MemPlace}
    (h : DataW.trod enc Try.prog W 0 (fun _ => true) true fuel 37 cs = some x) (hw : Within Try.prog 37 x.1) : ∃ V : VolM, VolAt W (.agg cs.toArray) V ∧ VolFits V := by
  obtain ⟨hl, hf⟩ := read_struct Try.underlying37 h hw
  rw [cellsVol] at hl
  match cs, hl with
  | [c0, c1], _ =>
    obtain ⟨n0, y0, h0, w0⟩ := hf 0 _ rfl
    obtain ⟨n1, y1, h1, w1⟩ := hf 1 _ rfl
    simp [cellsStrs, cellsStrss] at h0 h1
    obtain ⟨v, l, e0, hs, hz⟩ := read_strs h0 w0
    obtain ⟨v', ll, e1, hs', hz', hz''⟩ := read_strss h1 w1
    simp at e0 e1
    subst e0 e1
    exact ⟨⟨l, ll⟩, ⟨_, _, rfl, hs, hs'⟩, ⟨by show l.length * 16 ≤ _; omega, by show ll.length * 24 ≤ _; omega, fun s hs => by have := hz'' s hs; omega⟩⟩

theorem arg_op {H : Type} {enc : TypeId × Value → H} {W : World} {fuel : Nat} {cs : Array Value} {x : DataW H × List MemPlace}
    (h : DataW.trod enc Try.prog W 0 (fun _ => true) true fuel 23 (Value.agg cs).cells.toList = some x) (hw : Within Try.prog 23 x.1) : ∃ o : OpM, cs = (opCells o).toArray ∧ o.data.length ≤ 140737488351232 := by
  obtain ⟨o, h1, h2⟩ := read_op h hw
  have h3 : cs.toList = opCells o := h1
  exact ⟨o, by rw [← h3], h2⟩

theorem arg_vol {H : Type} {enc : TypeId × Value → H} {W : World} {fuel : Nat} {cs : Array Value} {x : DataW H × List MemPlace}
    (h : DataW.trod enc Try.prog W 0 (fun _ => true) true fuel 37 (Value.agg cs).cells.toList = some x) (hw : Within Try.prog 37 x.1) : ∃ V : VolM, VolAt W (.agg cs) V ∧ VolFits V :=
  read_vol h hw

end Go.Proofs.Ytpbiojnmegemdac

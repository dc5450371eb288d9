/- Replicas and messages, as a row reads them. -/
import Derived.Test.YtmdgkjbiicaljagJointKeptRead
import Derived.Test.YtmdgkjbiicaljagJointReplMem
import Derived.BigQuiet
import Derived.Deep.QuietTactic
import Derived.Deep.DeepCutAuto
namespace Go.Proofs.Ytmdgkjbiicaljag
open Go.ChangeShapes Go.WideShapes Go.ChangeAt Go.RowKit Go.Deep
set_option linter.unusedVariables false
set_option linter.unusedSimpArgs false

theorem cellsInts : Try.prog.cellsOf 25 = 1 := by kernel_rfl
theorem cellsBools : Try.prog.cellsOf 26 = 1 := by kernel_rfl
theorem cellsKepts : Try.prog.cellsOf 27 = 1 := by kernel_rfl
theorem cellsRepl : Try.prog.cellsOf 29 = 10 := by kernel_rfl
theorem cellsMsg : Try.prog.cellsOf 31 = 8 := by kernel_rfl
theorem bytesOfKept : Try.prog.bytesOf 24 = 56 := by kernel_rfl

theorem read_ints {H : Type} {enc : TypeId × Value → H} {W : World} {fuel : Nat} {cs : List Value} {x : DataW H × List MemPlace}
    (h : DataW.trod enc Try.prog W 0 (fun _ => true) true fuel 25 cs = some x) (hw : Within Try.prog 25 x.1) : ∃ v l, cs = [v] ∧ Ints W v l ∧ l.length * 8 ≤ 140737488351232 := by
  have c1 : Try.prog.cellsOf 3 = 1 := by kernel_rfl
  have b1 : Try.prog.bytesOf 3 = 8 := by kernel_rfl
  obtain ⟨a, cap, l, rfl, hb, hc⟩ := read_slice (fun C (y : Int) => C = [.int .i64 y]) Try.underlying25 (by rw [c1]; decide) (fun fuel cs x h1 h2 => by obtain ⟨n, e, _⟩ := read_int Try.underlying3 h1; exact ⟨n, e⟩) h hw
  rw [b1] at hb
  refine ⟨_, l, rfl, ⟨a, cap, rfl, by omega, fun i hi => ?_⟩, hb⟩
  obtain ⟨b, o, C, ha, _, hC, hcell⟩ := hc i hi
  have hd : (default : Int) = 0 := rfl
  rw [hd] at hC
  refine ⟨b, o, ha, ?_⟩
  have := hcell 0 _ (by rw [hC]; rfl)
  rw [c1, Nat.mul_one, Nat.add_zero] at this
  exact this

theorem read_bools {H : Type} {enc : TypeId × Value → H} {W : World} {fuel : Nat} {cs : List Value} {x : DataW H × List MemPlace}
    (h : DataW.trod enc Try.prog W 0 (fun _ => true) true fuel 26 cs = some x) (hw : Within Try.prog 26 x.1) : ∃ v l, cs = [v] ∧ Bools W v l ∧ l.length ≤ 140737488351232 := by
  have c1 : Try.prog.cellsOf 4 = 1 := by kernel_rfl
  have b1 : Try.prog.bytesOf 4 = 1 := by kernel_rfl
  obtain ⟨a, cap, l, rfl, hb, hc⟩ := read_slice (fun C (y : Bool) => C = [.bool y]) Try.underlying26 (by rw [c1]; decide) (fun fuel cs x h1 h2 => by obtain ⟨n, e⟩ := read_bool Try.underlying4 h1; exact ⟨n, e⟩) h hw
  rw [b1] at hb
  refine ⟨_, l, rfl, ⟨a, cap, rfl, by omega, fun i hi => ?_⟩, by omega⟩
  obtain ⟨b, o, C, ha, _, hC, hcell⟩ := hc i hi
  have hd : (default : Bool) = false := rfl
  rw [hd] at hC
  refine ⟨b, o, ha, ?_⟩
  have := hcell 0 _ (by rw [hC]; rfl)
  rw [c1, Nat.mul_one, Nat.add_zero] at this
  exact this

theorem texts_in {W : World} {v : Value} {l : List (List UInt8)} (h : Strs W v l) (hz : l.length * 16 ≤ 140737488351232) : TextsIn l := ⟨by omega, h.bounds.2⟩

theorem read_kepts {H : Type} {enc : TypeId × Value → H} {W : World} {fuel : Nat} {cs : List Value} {x : DataW H × List MemPlace}
    (h : DataW.trod enc Try.prog W 0 (fun _ => true) true fuel 27 cs = some x) (hw : Within Try.prog 27 x.1) : ∃ v l, cs = [v] ∧ KeptsAt W v l ∧ l.length * 56 ≤ 140737488351232 ∧ ∀ k ∈ l, TextsIn k.log := by
  letI : Inhabited KeptM := ⟨zeroKept⟩
  obtain ⟨a, cap, l, rfl, hb, hc⟩ := read_slice (fun C (y : KeptM) => KeptAt W (.agg C.toArray) y ∧ y.log.length * 16 ≤ 140737488351232) Try.underlying27 (by rw [cellsKept]; decide) (fun fuel cs x h1 h2 => read_kept h1 h2) h hw
  rw [bytesOfKept] at hb
  have hd : (default : KeptM) = zeroKept := rfl
  refine ⟨_, l, rfl, ⟨a, cap, rfl, by omega, fun i hi => ?_⟩, hb, fun k hk => ?_⟩
  · obtain ⟨b, o, C, ha, _, ⟨⟨vl, hC, hs⟩, hz⟩, hcell⟩ := hc i hi
    rw [hd] at hC hs
    have hC' : C = keptCells (l.getD i zeroKept) vl := by
      have h9 := congrArg (fun v => v.cells.toList) hC
      simpa [keptCells, Value.cells] using h9
    subst hC'
    refine ⟨b, o, vl, ha, fun j u hj => ?_, hs⟩
    rw [cellsKept] at hcell
    exact hcell j u hj
  · obtain ⟨i, hi, rfl⟩ := List.mem_iff_getElem.1 hk
    obtain ⟨b, o, C, ha, _, ⟨⟨vl, hC, hs⟩, hz⟩, hcell⟩ := hc i hi
    have e1 : l.getD i default = l[i] := by simp [List.getD, hi]
    rw [e1] at hs hz
    exact texts_in hs hz

set_option maxRecDepth 10000 in
theorem arg_repl {H : Type} {enc : TypeId × Value → H} {W : World} {fuel : Nat} {cs0 : Array Value} {x : DataW H × List MemPlace}
    (h : DataW.trod enc Try.prog W 0 (fun _ => true) true fuel 29 (Value.agg cs0).cells.toList = some x) (hw : Within Try.prog 29 x.1) : ∃ R : ReplM, ReplAt W (.agg cs0) R ∧ ReplFits R := by
  obtain ⟨cs, rfl⟩ : ∃ cs : List Value, cs0 = cs.toArray := ⟨cs0.toList, by simp⟩
  have h : DataW.trod enc Try.prog W 0 (fun _ => true) true fuel 29 cs = some x := h
  obtain ⟨hl, hf⟩ := read_struct Try.underlying29 h hw
  rw [cellsRepl] at hl
  match cs, hl with
  | [c0, c1, c2, c3, c4, c5, c6, c7, c8, c9], _ =>
    obtain ⟨n0, y0, h0, _⟩ := hf 0 _ rfl
    obtain ⟨n1, y1, h1, w1⟩ := hf 1 _ rfl
    obtain ⟨n2, y2, h2, w2⟩ := hf 2 _ rfl
    obtain ⟨n3, y3, h3, w3⟩ := hf 3 _ rfl
    obtain ⟨n4, y4, h4, w4⟩ := hf 4 _ rfl
    obtain ⟨n5, y5, h5, w5⟩ := hf 5 _ rfl
    simp [cellsIntK, cellsKept, cellsInts, cellsBools, cellsKepts] at h0 h1 h2 h3 h4 h5
    obtain ⟨me, e0, _⟩ := read_int Try.underlying3 h0
    obtain ⟨K, ⟨vl, e1, hs⟩, hz1⟩ := read_kept h1 w1
    obtain ⟨vh, hav, e2, hh, hz2⟩ := read_ints h2 w2
    obtain ⟨vw, wants, e3, hwn, hz3⟩ := read_bools h3 w3
    obtain ⟨vg, gives, e4, hg, hz4, hz4'⟩ := read_kepts h4 w4
    obtain ⟨vn, given, e5, hn, hz5⟩ := read_bools h5 w5
    simp at e0 e1 e2 e3 e4 e5
    obtain ⟨e10, e11, e12, e13, e14⟩ := e1
    subst e0 e10 e11 e12 e13 e14 e2 e3 e4 e5
    exact ⟨⟨me, K, hav, wants, gives, given⟩, ⟨_, _, _, _, _, rfl, hs, hh, hwn, hg, hn⟩, ⟨texts_in hs hz1, by simp only; omega, by simp only; omega, by simp only; omega, hz4', by simp only; omega⟩⟩

set_option maxRecDepth 10000 in
theorem arg_msg {H : Type} {enc : TypeId × Value → H} {W : World} {fuel : Nat} {cs0 : Array Value} {x : DataW H × List MemPlace}
    (h : DataW.trod enc Try.prog W 0 (fun _ => true) true fuel 31 (Value.agg cs0).cells.toList = some x) (hw : Within Try.prog 31 x.1) : ∃ M : MsgM, MsgAt W (.agg cs0) M ∧ TextsIn M.log := by
  obtain ⟨cs, rfl⟩ : ∃ cs : List Value, cs0 = cs.toArray := ⟨cs0.toList, by simp⟩
  have h : DataW.trod enc Try.prog W 0 (fun _ => true) true fuel 31 cs = some x := h
  obtain ⟨hl, hf⟩ := read_struct Try.underlying31 h hw
  rw [cellsMsg] at hl
  match cs, hl with
  | [c0, c1, c2, c3, c4, c5, c6, c7], _ =>
    obtain ⟨n0, y0, h0, _⟩ := hf 0 _ rfl
    obtain ⟨n1, y1, h1, _⟩ := hf 1 _ rfl
    obtain ⟨n2, y2, h2, _⟩ := hf 2 _ rfl
    obtain ⟨n3, y3, h3, _⟩ := hf 3 _ rfl
    obtain ⟨n4, y4, h4, _⟩ := hf 4 _ rfl
    obtain ⟨n5, y5, h5, _⟩ := hf 5 _ rfl
    obtain ⟨n6, y6, h6, _⟩ := hf 6 _ rfl
    obtain ⟨n7, y7, h7, w7⟩ := hf 7 _ rfl
    simp [cellsIntK, cellsStrsK] at h0 h1 h2 h3 h4 h5 h6 h7
    obtain ⟨m0, e0, _⟩ := read_int Try.underlying3 h0
    obtain ⟨m1, e1, _⟩ := read_int Try.underlying3 h1
    obtain ⟨m2, e2, _⟩ := read_int Try.underlying3 h2
    obtain ⟨m3, e3, _⟩ := read_int Try.underlying3 h3
    obtain ⟨m4, e4, _⟩ := read_int Try.underlying3 h4
    obtain ⟨m5, e5, _⟩ := read_int Try.underlying3 h5
    obtain ⟨m6, e6, _⟩ := read_int Try.underlying3 h6
    obtain ⟨vl, l, e7, hs, hz⟩ := read_strs h7 w7
    simp at e0 e1 e2 e3 e4 e5 e6 e7
    subst e0 e1 e2 e3 e4 e5 e6 e7
    exact ⟨⟨m0, m1, m2, m3, m4, m5, m6, l⟩, ⟨_, rfl, hs⟩, texts_in hs hz⟩

end Go.Proofs.Ytmdgkjbiicaljag

/- The walk of the document's answer SameKept, of what is the same. -/
namespace Go.Proofs.Ytmdgkjbiicaljag
open Go.RowKit
set_option linter.unusedVariables false
set_option linter.unusedSimpArgs false
attribute [local go_sem] app_list ext_list get_list byteAt_zero

set_option maxHeartbeats 2000000 in
theorem sameKept_same (K : KeptM) (v v' : Value) (w : World) (h : KeptAt w v K) (h' : KeptAt w v' K) :
    Calls Try.prog 28 #[v, v'] w fun e w' => e = .returned (.bool true) ∧ Below w.heap.size w w' := by
  obtain ⟨vl, rfl, hs⟩ := h
  obtain ⟨vl', rfl, hs'⟩ := h'
  obtain ⟨vw, nm, cm, l, ct⟩ := K
  simp only at hs hs' ⊢
  obtain ⟨a, c, rfl, hlx, hcx⟩ := hs
  obtain ⟨a', c', rfl, _, hcy⟩ := hs'
  obtain ⟨b0, b1, hb⟩ := boxes2 w 24 24 [.int .i64 vw, .int .i64 nm, .bool cm, .slice a l.length c, .int .i64 ct] [.int .i64 vw, .int .i64 nm, .bool cm, .slice a' l.length c', .int .i64 ct]
  obtain ⟨w0, hw0⟩ : ∃ w0, w0 = (w.alloc (.cells #[.int .i64 vw, .int .i64 nm, .bool cm, .slice a l.length c, .int .i64 ct] 24)).alloc (.cells #[.int .i64 vw, .int .i64 nm, .bool cm, .slice a' l.length c', .int .i64 ct] 24) := ⟨_, rfl⟩
  go_enter Try.func28, Try.ntmps28
  go_upto_region 1 with fail
  rw [← hw0] at b0 b1 hb ⊢
  clear hw0
  have x0 := b0.cell 0 _ rfl
  have x1 := b0.cell 1 _ rfl
  have x2 := b0.cell 2 _ rfl
  have x3 := b0.cell 3 _ rfl
  have x4 := b0.cell 4 _ rfl
  have y0 := b1.cell 0 _ rfl
  have y1 := b1.cell 1 _ rfl
  have y2 := b1.cell 2 _ rfl
  have y3 := b1.cell 3 _ rfl
  have y4 := b1.cell 4 _ rfl
  have HB0 : Hid (Box w0 w.heap.size _ _) := b0
  have HB1 : Hid (Box w0 (w.heap.size + 1) _ _) := b1
  have HBW : Hid (Below w.heap.size w w0) := hb
  clear b0 b1 hb
  go_wp2_with fail
  go_loopw [5] (fun i wr => ∃ k : Nat, k ≤ l.length ∧ i = .int .i64 k ∧ Below w0.heap.size w0 wr) (fun i wr => l.length - (intOf i).toNat)
  case atStart => exact ⟨0, by omega, rfl, Below.refl _ _⟩
  case round =>
    clear x0 x1 x2 x3 x4 y0 y1 y2 y3 y4
    obtain ⟨k, hk, rfl, hbr⟩ := hrel
    have x3 := (HB0.out.below hbr HB0.out.lt).cell 3 _ rfl
    have y3 := (HB1.out.below hbr HB1.out.lt).cell 3 _ rfl
    have HBR : Hid (Below w.heap.size w wr) := Below.far HBW.out hbr
    by_cases hlt : k < l.length
    · obtain ⟨b, o, rfl, h1, _⟩ := hcx k hlt
      obtain ⟨b', o', rfl, h1', _⟩ := hcy k hlt
      have t0 := (HBR.out.cell (p := ⟨b, _, none⟩) (lt_of_cell h1)).trans h1
      have t1 := (HBR.out.cell (p := ⟨b', _, none⟩) (lt_of_cell h1')).trans h1'
      have k0 : (0 : Int) ≤ (k : Int) := by omega
      have k1 : (k : Int) < (l.length : Int) := by omega
      have HR : Hid (Below w0.heap.size w0 wr) := hbr
      clear hcx hcy h1 h1' hbr
      generalize l.getD k [] = s at *
      go_wp2_with fail
      go_quiet (fail)
      go_wp2_with fail
      go_roundw
      case rel => exact ⟨k + 1, by omega, by go_num, Below.far HR.out (below_drew_n _ _)⟩
      case measure => simp [intOf]; omega
    · clear hcx hcy hbr
      go_wp2_with fail
      go_ret
      exact ⟨rfl, HBR.out⟩

end Go.Proofs.Ytmdgkjbiicaljag

/- The walk of the document's answer SameKept, of what is the same. -/
import Derived.Test.YtohehhpccbaclafStageMem
import Derived.Test.YtohehhpccbaclafRowlaw
import Derived.BigQuiet
import Derived.Deep.QuietTactic
import Derived.Deep.DeepCutAuto
namespace Go.Proofs.Ytohehhpccbaclaf
open Go.RowKit
set_option linter.unusedVariables false
set_option linter.unusedSimpArgs false
attribute [local go_sem] app_list ext_list get_list byteAt_zero

set_option maxHeartbeats 2000000 in
theorem sameKept_same (K : KeptM) (v v' : Value) (w : World) (h : KeptAt w v K) (h' : KeptAt w v' K) :
    Calls Try.prog 28 #[v, v'] w fun e w' => e = .returned (.bool true) ∧ Below w.heap.size w w' := by
  obtain ⟨vl, rfl, hs⟩ := h
  obtain ⟨vl', rfl, hs'⟩ := h'
  obtain ⟨vw, nm, cm, l, ct⟩ := K
  simp only at hs hs' ⊢
  obtain ⟨a, c, rfl, hlx, hcx⟩ := hs
  obtain ⟨a', c', rfl, _, hcy⟩ := hs'
  obtain ⟨b0, b1, hb⟩ := boxes2 w 24 24 [.int .i64 vw, .int .i64 nm, .bool cm, .slice a l.length c, .int .i64 ct] [.int .i64 vw, .int .i64 nm, .bool cm, .slice a' l.length c', .int .i64 ct]
  obtain ⟨w0, hw0⟩ : ∃ w0, w0 = (w.alloc (.cells #[.int .i64 vw, .int .i64 nm, .bool cm, .slice a l.length c, .int .i64 ct] 24)).alloc (.cells #[.int .i64 vw, .int .i64 nm, .bool cm, .slice a' l.length c', .int .i64 ct] 24) := ⟨_, rfl⟩
  go_enter Try.func28, Try.ntmps28
  go_upto_region 1 with fail
  rw [← hw0] at b0 b1 hb ⊢
  clear hw0
  have x0 := b0.cell 0 _ rfl
  have x1 := b0.cell 1 _ rfl
  have x2 := b0.cell 2 _ rfl
  have x3 := b0.cell 3 _ rfl
  have x4 := b0.cell 4 _ rfl
  have y0 := b1.cell 0 _ rfl
  have y1 := b1.cell 1 _ rfl
  have y2 := b1.cell 2 _ rfl
  have y3 := b1.cell 3 _ rfl
  have y4 := b1.cell 4 _ rfl
  have HB0 : Hid (Box w0 w.heap.size _ _) := b0
  have HB1 : Hid (Box w0 (w.heap.size + 1) _ _) := b1
  have HBW : Hid (Below w.heap.size w w0) := hb
  clear b0 b1 hb
  go_wp2_with fail
  go_loopw [5] (fun i wr => ∃ k : Nat, k ≤ l.length ∧ i = .int .i64 k ∧ Below w0.heap.size w0 wr) (fun i wr => l.length - (intOf i).toNat)
  case atStart => exact ⟨0, by omega, rfl, Below.refl _ _⟩
  case round =>
    clear x0 x1 x2 x3 x4 y0 y1 y2 y3 y4
    obtain ⟨k, hk, rfl, hbr⟩ := hrel
    have x3 := (HB0.out.below hbr HB0.out.lt).cell 3 _ rfl
    have y3 := (HB1.out.below hbr HB1.out.lt).cell 3 _ rfl
    have HBR : Hid (Below w.heap.size w wr) := Below.far HBW.out hbr
    by_cases hlt : k < l.length
    · obtain ⟨b, o, rfl, h1, _⟩ := hcx k hlt
      obtain ⟨b', o', rfl, h1', _⟩ := hcy k hlt
      have t0 := (HBR.out.cell (p := ⟨b, _, none⟩) (lt_of_cell h1)).trans h1
      have t1 := (HBR.out.cell (p := ⟨b', _, none⟩) (lt_of_cell h1')).trans h1'
      have k0 : (0 : Int) ≤ (k : Int) := by omega
      have k1 : (k : Int) < (l.length : Int) := by omega
      have HR : Hid (Below w0.heap.size w0 wr) := hbr
      clear hcx hcy h1 h1' hbr
      generalize l.getD k [] = s at *
      go_wp2_with fail
      go_quiet (fail)
      go_wp2_with fail
      go_roundw
      case rel => exact ⟨k + 1, by omega, by go_num, Below.far HR.out (below_drew_n _ _)⟩
      case measure => simp [intOf]; omega
    · clear hcx hcy hbr
      go_wp2_with fail
      go_ret
      exact ⟨rfl, HBR.out⟩

end Go.Proofs.Ytohehhpccbaclaf

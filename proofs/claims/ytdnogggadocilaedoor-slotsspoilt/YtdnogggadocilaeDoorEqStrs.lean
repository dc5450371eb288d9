/- slices.Equal of lists of texts that are the same. -/
import Derived.Test.YtdnogggadocilaeDoorMemKit
import Derived.BigQuiet
import Derived.Deep.QuietTactic
namespace Go.Proofs.YtdnogggadocilaeDoor
open Go.RowKit
set_option linter.unusedVariables false
set_option linter.unusedSimpArgs false
attribute [local go_sem] app_list ext_list get_list byteAt_zero

set_option maxRecDepth 4000 in
set_option maxHeartbeats 1000000 in
theorem equalStrs_same (x : List (List UInt8)) (v v' : Value) (w : World) (hx : Strs w v x) (hy : Strs w v' x) :
    Calls Tryd.prog 23 #[v, v'] w fun e w' => e = .returned (.bool true) ∧ Below w.heap.size w w' := by
  obtain ⟨a, c, rfl, hlx, hcx⟩ := hx
  obtain ⟨a', c', rfl, _, hcy⟩ := hy
  go_enter Tryd.func23, Tryd.ntmps23
  go_wp2_with fail
  go_loopw [13] (fun i wr => ∃ k : Nat, k ≤ x.length ∧ i = .int .i64 k ∧ Below w.heap.size w wr) (fun i wr => x.length - (intOf i).toNat)
  case atStart => exact ⟨0, by omega, rfl, Below.refl _ _⟩
  case round =>
    obtain ⟨k, hk, rfl, hbr⟩ := hrel
    have HBR : Hid (Below w.heap.size w wr) := hbr
    by_cases hlt : k < x.length
    · obtain ⟨b, o, rfl, h1, _⟩ := hcx k hlt
      obtain ⟨b', o', rfl, h1', _⟩ := hcy k hlt
      have t0 := (HBR.out.cell (p := ⟨b, _, none⟩) (lt_of_cell h1)).trans h1
      have t1 := (HBR.out.cell (p := ⟨b', _, none⟩) (lt_of_cell h1')).trans h1'
      have k0 : (0 : Int) ≤ (k : Int) := by omega
      have k1 : (k : Int) < (x.length : Int) := by omega
      clear hcx hcy h1 h1' hbr
      generalize x.getD k [] = s at *
      go_wp2_with fail
      go_quiet (fail)
      go_wp2_with fail
      go_roundw
      case rel => exact ⟨k + 1, by omega, by go_num, Below.far HBR.out (below_drew_n _ _)⟩
      case measure => simp [intOf]; omega
    · clear hcx hcy hbr
      go_wp2_with fail
      go_ret
      exact ⟨rfl, HBR.out⟩

end Go.Proofs.YtdnogggadocilaeDoor

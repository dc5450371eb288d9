/- The walk of codec.Seal. -/
import Derived.Test.YtdnogggadocilaeDoorCodecGo
import Derived.Test.YtdnogggadocilaeDoorSealMath
namespace Go.Proofs.YtdnogggadocilaeDoor
open Go.RowKit
set_option linter.unusedVariables false
attribute [local go_sem] app_list ext_list get_list byteAt_zero

set_option maxHeartbeats 1000000 in
theorem seal_any (l : List UInt8) (w : World) (hl : l.length ≤ 281474976710656) :
    Calls Tryd.prog 22 #[.string ⟨l.toArray⟩] w fun e w' => e = .returned (.string ⟨(sealBytes l).toArray⟩) ∧ Below w.heap.size w w' := by
  go_enter Tryd.func22, Tryd.ntmps22
  go_wp2
  go_loop [3, 4, 8] (fun x y i => ∃ k : Nat, k ≤ l.length ∧ i = .int .i64 k ∧ x = .int .i64 (sealTo (l.take k)).1 ∧ y = .int .i64 (sealTo (l.take k)).2) (fun _ _ i => l.length - (intOf i).toNat)
  case atStart => exact ⟨0, by omega, rfl, rfl, rfl⟩
  case round =>
    obtain ⟨k, hk, rfl, rfl, rfl⟩ := hrel
    have hb := sealTo_bd (l.take k)
    by_cases hlt : k < l.length
    · have hy := byteAt_bd l k
      have HN : Hid (sealTo (l.take (k + 1)) = _) := seal_next l k hlt
      go_wp2
      exact ⟨⟨k + 1, by omega, by go_num, by rw [HN.out], by rw [HN.out]⟩, by simp [intOf]; omega⟩
    · obtain rfl : k = l.length := by omega
      have e : l.take l.length = l := List.take_length
      rw [e] at hb ⊢
      go_wp2_with fail
      refine (pair_any _ _ (by omega) (by omega)).mono ?_
      rintro e w1 ⟨rfl, hb1⟩
      go_wp2_with fail
      refine (pair_any _ _ (by omega) (by omega)).mono ?_
      rintro e w2 ⟨rfl, hb2⟩
      go_wp2_with fail
      go_ret
      refine ⟨?_, Below.seq hb1 hb2⟩
      simp [sealBytes]

end Go.Proofs.YtdnogggadocilaeDoor

/- The program's own stage.New. -/
import Derived.Test.YtdnogggadocilaeDoorKencGo
import Derived.Test.YtdnogggadocilaeDoorLoadMem
namespace Go.Proofs.YtdnogggadocilaeDoor
open Go.RowKit
set_option linter.unusedVariables false
set_option linter.unusedSimpArgs false
attribute [local go_sem] app_list ext_list get_list byteAt_zero

theorem fresh_go : kencE freshK 0 = 0 ∧ kencS freshK 0 = keptB freshK 0 := by
  have e : kencE freshK 0 = 0 := by decide
  exact ⟨e, by unfold kencS; rw [if_pos e]⟩

set_option maxHeartbeats 1000000 in
theorem stageNew_any (w : World) :
    Calls Tryd.prog 7 #[] w fun e w' => ∃ v', e = .returned v' ∧ w'.ownsRow w.heap.size 9 1 v' newSlots.length (newSlots.map enc) ∧ Below w.heap.size w w' := by
  have HK : Hid (KeptAt w (.agg #[.int .i64 0, .int .i64 0, .bool true, .slice none 0 0, .int .i64 0]) freshK) := ⟨_, rfl, ⟨none, 0, rfl, by decide, fun i hi => by simp [freshK] at hi⟩⟩
  have HE : Hid (Calls Tryd.prog 8 #[.agg #[.int .i64 0, .int .i64 0, .bool true, .slice none 0 0, .int .i64 0], .int .i64 0] w _) := stageEnc_any freshK 0 _ w HK.out
  rw [fresh_go.1, fresh_go.2] at HE
  have HS : Hid (newSlots = [keptB freshK 0, []]) := rfl
  obtain ⟨S, hS⟩ : ∃ S, keptB freshK 0 = S := ⟨_, rfl⟩
  rw [hS] at HE HS
  clear hS HK
  go_enter Tryd.func7, Tryd.ntmps7
  go_wp2_with fail
  refine HE.out.mono ?_
  rintro e w1 ⟨rfl, hb1⟩
  have B1 := Box.new w1 9 [.string ⟨S.toArray⟩, .string ⟨#[]⟩]
  have HO : Hid (World.ownsRow _ _ _ _ _ _ _) := own_box B1 (base := w.heap.size) hb1.size 2 1 rfl (by decide)
  have HB : Hid (Below w.heap.size w _) := Below.up hb1 (.cells #[.string ⟨S.toArray⟩, .string ⟨#[]⟩] 9)
  clear hb1 HE B1
  go_wp2_with fail
  go_ret
  rw [HS.out]
  exact ⟨_, rfl, HO.out, HB.out⟩

end Go.Proofs.YtdnogggadocilaeDoor

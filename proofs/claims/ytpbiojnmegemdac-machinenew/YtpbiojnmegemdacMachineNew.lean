/- The law MachineNew answers true: machine.New answers what the document says. No conditions but the form of the claim itself. -/
import Derived.Test.YtpbiojnmegemdacMachDevA
namespace Go.Proofs.Ytpbiojnmegemdac
open Go.ChangeShapes Go.WideShapes Go.ChangeAt Go.RowKit Go.Deep
open Go.ChangeMaps (open_string shut_string)
set_option linter.unusedVariables false
set_option linter.unusedSimpArgs false
attribute [local go_sem] app_list ext_list get_list byteAt_zero

set_option maxHeartbeats 400000 in
theorem machineNew_walk (w : World) :
    Calls Try.prog 6 #[] w fun e w' => e = .returned (.bool true) ∧ Below w.heap.size w w' := by
  go_enter Try.func6, Try.ntmps6
  go_wp2_with fail
  refine (machNew_any _).mono ?_
  rintro e w1 ⟨v1, rfl, hn1, hb1⟩
  obtain ⟨a1, c1, a2, c2, a3, c3, rfl⟩ := hn1.form
  have ha1 := hn1.at newSt_fits
  go_wp2_with fail
  have b0 := Box.new w1 40 [.slice a1 newSt.vol.now.length c1, .slice a2 newSt.vol.snaps.length c2, .slice a3 newSt.lasts.length c3]
  refine (stateOf_is _).mono ?_
  rintro e w2 ⟨v2, rfl, hn2, hb2⟩
  obtain ⟨a4, c4, a5, c5, a6, c6, rfl⟩ := hn2.form
  have b0' := b0.below hb2 (by simp)
  have hb12 := (below_alloc w1 (.cells #[.slice a1 newSt.vol.now.length c1, .slice a2 newSt.vol.snaps.length c2, .slice a3 newSt.lasts.length c3] 40)).trans (hb2.mono (by simp))
  have ha12 := ha1.below hb12
  have ha2 := hn2.at newSt_fits
  have x0 := b0'.cell 0 _ rfl
  have x1 := b0'.cell 1 _ rfl
  have x2 := b0'.cell 2 _ rfl
  have l0 := b0'.lt
  clear hn1 hn2 b0
  go_wp2_with fail
  refine (sameState_any newSt _ _ _ (by exact ha12.below (below_alloc _ _)) (by exact ha2.below (below_alloc _ _))).mono ?_
  rintro e w3 ⟨rfl, hb3⟩
  go_wp2_with fail
  go_ret
  exact ⟨by simp, Below.seq (Below.seq (Below.seq hb1 hb12) (below_alloc _ _)) hb3⟩

theorem machineNew_own : ownKnob Try.prog.godebug = none := by kernel_rfl
theorem machineNew_laidOut : laidOutB Try.prog = true := by kernel_rfl

set_option maxRecDepth 100000 in
theorem machineNew_lifted (os : Os) (started : os.Started) (H : Type) (enc : TypeId × Value → H) :
    ReturnsInHanded {} Try.checked os 6 .any (Rows.machineNewSpec.pre6 enc Try.prog Try.f6 Rows.machineNewRow.domain false) (Rows.machineNewSpec.post enc Try.prog Try.f6 false true false false) := by
  refine returnsInHanded_of_change_sized (C := Try.checked) machineNew_own started (by kernel_rfl) Try.func6
    (ChangeSpec.witness6 (enc := enc) (C := Try.checked) false ⟨#[], #[], []⟩ 8 (by kernel_rfl) (by kernel_rfl) (by kernel_rfl) (by kernel_rfl)) ?_
  intro W base args ds gs before hval0 hW hcnd hsz0 _
  have hval : ∀ (j : Nat) t v, Try.f6.params[j]? = some t → args[j]? = some v → Value.okWide Try.prog W .any base t v := hval0
  have hsz : (DataW.weightsEach Try.prog (Try.f6.params.toList ++ Rows.machineNewSpec.plain.varTypes Try.prog) (ds ++ gs)).all (· ≤ reachBytes) = true := hsz0
  have hW' := hW
  obtain ⟨p, q, hA0, hV, rfl, hfz, hnd⟩ := hW
  have hA : DataW.TrodAll enc Try.prog W 0 (fun _ => true) true Try.f6.params.toList args.toList ds p := hA0
  rw [Try.params6] at hA hval hsz
  obtain ⟨hargs, rfl, rfl⟩ := trodAll_nil hA
  obtain rfl : args = #[] := by cases args; simp_all
  obtain ⟨rfl, rfl⟩ := trodVars_none hV
  clear hA0 hval0 hsz hsz0
  refine (machineNew_walk W ).mono fun e W' ⟨he, bel⟩ => ?_
  subst he
  exact ⟨_, rfl, _, _, _, [], _, [], hW', trodAll_mk1 (shut_bool Try.underlying4 _), trodAll_mk0, rfl, bel.frame _, fun h => by cases h⟩

theorem machineNew_holds : Rows.MachineNewSaid :=
  OpenClaim.holds_of_wide 6 Try.f6 rfl rfl rfl rfl rfl rfl rfl ⟨rfl, rfl, rfl, rfl, rfl⟩ rfl rfl rfl rfl rfl (by kernel_rfl) Try.func6 (by kernel_rfl)
    (of_decide_eq_true (by kernel_rfl)) (by unfold Func.isWrapper; first | (rw [if_pos (by decide +kernel)]; kernel_rfl) | (rw [if_neg (by decide +kernel)]; exact ⟨rfl, rfl⟩))
    (fun os started H enc _ => machineNew_lifted os started H enc)
#print axioms machineNew_holds
end Go.Proofs.Ytpbiojnmegemdac

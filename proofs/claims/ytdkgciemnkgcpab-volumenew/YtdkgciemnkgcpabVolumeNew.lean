/- The law VolumeNew answers true: volume.New answers the empty volume that the document says. -/
import Derived.Test.YtdkgciemnkgcpabVolDev
namespace Go.Proofs.Ytdkgciemnkgcpab
open Go.ChangeShapes Go.WideShapes Go.ChangeAt Go.RowKit Go.Deep
open Go.ChangeMaps (open_string shut_string)
set_option linter.unusedVariables false
set_option linter.unusedSimpArgs false
attribute [local go_sem] app_list ext_list get_list byteAt_zero

set_option maxHeartbeats 400000 in
theorem volumeNew_walk (w : World) :
    Calls Try.prog 3 #[] w fun e w' => e = .returned (.bool true) ∧ Below w.heap.size w w' := by
  go_enter Try.func3, Try.ntmps3
  go_wp2_with fail
  refine (volNew_any _).mono ?_
  rintro e w1 ⟨v1, rfl, hn1, hb1⟩
  obtain ⟨a1, c1, a2, c2, rfl⟩ := hn1.form
  have ha1 := newVol_is hn1
  go_wp2_with fail
  have b0 := Box.new w1 25 [.slice a1 newVol.now.length c1, .slice a2 newVol.snaps.length c2]
  refine (stateOf_any _).mono ?_
  rintro e w2 ⟨a, b, rfl, hn2, hb2⟩
  have b0' := b0.below hb2 (by simp)
  have hb12 := (below_alloc w1 (.cells #[.slice a1 newVol.now.length c1, .slice a2 newVol.snaps.length c2] 25)).trans (hb2.mono (by simp))
  have ha12 := ha1.below hb12
  have ha2 := newVol_is hn2
  have x0 := b0'.cell 0 _ rfl
  have x1 := b0'.cell 1 _ rfl
  have l0 := b0'.lt
  clear hn1 hn2 b0
  go_wp2_with fail
  refine (sameVolume_any newVol newVol _ _ _ (by exact ha12.below (below_alloc _ _)) (by exact ha2.below (below_alloc _ _))).mono ?_
  rintro e w3 ⟨rfl, hb3⟩
  go_wp2_with fail
  go_ret
  exact ⟨by simp, Below.seq (Below.seq (Below.seq hb1 hb12) (below_alloc _ _)) hb3⟩

theorem volumeNew_own : ownKnob Try.prog.godebug = none := by kernel_rfl
theorem volumeNew_laidOut : laidOutB Try.prog = true := by kernel_rfl

set_option maxRecDepth 100000 in
theorem volumeNew_lifted (os : Os) (started : os.Started) (H : Type) (enc : TypeId × Value → H) :
    ReturnsInHanded {} Try.checked os 3 .any (Rows.volumeNewSpec.pre6 enc Try.prog Try.f3 Rows.volumeNewRow.domain false) (Rows.volumeNewSpec.post enc Try.prog Try.f3 false true false false) := by
  refine returnsInHanded_of_change_sized (C := Try.checked) volumeNew_own started (by kernel_rfl) Try.func3
    (ChangeSpec.witness6 (enc := enc) (C := Try.checked) false ⟨#[], #[], []⟩ 8 (by kernel_rfl) (by kernel_rfl) (by kernel_rfl) (by kernel_rfl)) ?_
  intro W base args ds gs before hval0 hW hcnd hsz0 _
  have hval : ∀ (j : Nat) t v, Try.f3.params[j]? = some t → args[j]? = some v → Value.okWide Try.prog W .any base t v := hval0
  have hsz : (DataW.weightsEach Try.prog (Try.f3.params.toList ++ Rows.volumeNewSpec.plain.varTypes Try.prog) (ds ++ gs)).all (· ≤ reachBytes) = true := hsz0
  have hW' := hW
  obtain ⟨p, q, hA0, hV, rfl, hfz, hnd⟩ := hW
  have hA : DataW.TrodAll enc Try.prog W 0 (fun _ => true) true Try.f3.params.toList args.toList ds p := hA0
  rw [Try.params3] at hA hval hsz
  obtain ⟨hargs, rfl, rfl⟩ := trodAll_nil hA
  obtain rfl : args = #[] := by cases args; simp_all
  obtain ⟨rfl, rfl⟩ := trodVars_none hV
  clear hA0 hval0 hsz hsz0
  refine (volumeNew_walk W ).mono fun e W' ⟨he, bel⟩ => ?_
  subst he
  exact ⟨_, rfl, _, _, _, [], _, [], hW', trodAll_mk1 (shut_bool Try.underlying4 _), trodAll_mk0, rfl, bel.frame _, fun h => by cases h⟩

theorem volumeNew_holds : Rows.VolumeNewSaid :=
  OpenClaim.holds_of_wide 3 Try.f3 rfl rfl rfl rfl rfl rfl rfl ⟨rfl, rfl, rfl, rfl, rfl⟩ rfl rfl rfl rfl rfl (by kernel_rfl) Try.func3 (by kernel_rfl)
    (of_decide_eq_true (by kernel_rfl)) (by unfold Func.isWrapper; first | (rw [if_pos (by decide +kernel)]; kernel_rfl) | (rw [if_neg (by decide +kernel)]; exact ⟨rfl, rfl⟩))
    (fun os started H enc _ => volumeNew_lifted os started H enc)
#print axioms volumeNew_holds
end Go.Proofs.Ytdkgciemnkgcpab

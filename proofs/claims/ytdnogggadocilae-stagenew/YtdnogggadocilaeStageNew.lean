/- The law StageNew answers true: stage.New answers what the document says. No conditions but the form of the claim itself. -/
import Derived.Test.YtdnogggadocilaeSlotsGo
import Derived.Test.YtdnogggadocilaeSlotsRef
import Derived.Test.YtdnogggadocilaeSameTx
import Derived.Test.YtdnogggadocilaeKeptRead
namespace Go.Proofs.Ytdnogggadocilae
open Go.ChangeShapes Go.WideShapes Go.ChangeAt Go.RowKit Go.Deep
open Go.ChangeMaps (open_string shut_string)
set_option linter.unusedVariables false
set_option linter.unusedSimpArgs false
attribute [local go_sem] app_list ext_list get_list byteAt_zero

theorem newSlots_fit : newSlots.length ≤ 140737488355328 ∧ ∀ s ∈ newSlots, s.length ≤ 140737488355328 := by
  refine ⟨by decide, fun s hs => ?_⟩
  unfold newSlots at hs
  rcases List.mem_cons.1 hs with rfl | hs
  · have : (keptB freshK 0).length = 28 := by rfl
    omega
  · simp at hs
    subst hs
    simp

set_option maxHeartbeats 1000000 in
theorem stageNew_walk (w : World) :
    Calls Try.prog 4 #[] w fun e w' => e = .returned (.bool true) ∧ Below w.heap.size w w' := by
  have HG : Hid (∀ w, Calls _ _ _ w _) := fun w => stageNew_any w
  have HR : Hid (∀ w, Calls _ _ _ w _) := fun w => slotsOf_any w
  have HF : Hid (newSlots.length ≤ 140737488355328 ∧ ∀ s ∈ newSlots, s.length ≤ 140737488355328) := newSlots_fit
  generalize newSlots = L at *
  go_enter Try.func4, Try.ntmps4
  go_wp2_with fail
  refine (HG.out _).mono ?_
  rintro e w1 ⟨v1, rfl, hn1, hb1⟩
  have hr1 := Strs.of_own hn1 HF.out.1 HF.out.2
  obtain ⟨a1, c1, rfl⟩ := own_formN hn1
  clear hn1
  go_wp2_with fail
  refine (HR.out _).mono ?_
  rintro e w2 ⟨v2, rfl, hn2, hb2⟩
  have hr2 := Strs.of_own hn2 HF.out.1 HF.out.2
  obtain ⟨a2, c2, rfl⟩ := own_formN hn2
  have HB : Hid (Below w.heap.size w w2) := Below.seq hb1 hb2
  have HR1 : Hid (Strs w2 _ L) := hr1.below hb2
  have HR2 : Hid (Strs w2 _ L) := hr2
  clear hn2 hr1 hr2 hb1 hb2
  go_wp2_with fail
  refine (sameTexts_any _ _ _ _ _ HR1.out HR2.out).mono ?_
  rintro e w3 ⟨rfl, n, rfl⟩
  go_wp2_with fail
  go_ret
  exact ⟨by simp, Below.far HB.out (below_drew_n _ _)⟩

theorem stageNew_own : ownKnob Try.prog.godebug = none := by kernel_rfl
theorem stageNew_laidOut : laidOutB Try.prog = true := by kernel_rfl

set_option maxRecDepth 100000 in
theorem stageNew_lifted (os : Os) (started : os.Started) (H : Type) (enc : TypeId × Value → H) :
    ReturnsInHanded {} Try.checked os 4 .any (Rows.stageNewSpec.pre6 enc Try.prog Try.f4 Rows.stageNewRow.domain false) (Rows.stageNewSpec.post enc Try.prog Try.f4 false true false false) := by
  refine returnsInHanded_of_change_sized (C := Try.checked) stageNew_own started (by kernel_rfl) Try.func4
    (ChangeSpec.witness6 (enc := enc) (C := Try.checked) false ⟨#[], #[], []⟩ 8 (by kernel_rfl) (by kernel_rfl) (by kernel_rfl) (by kernel_rfl)) ?_
  intro W base args ds gs before hval0 hW hcnd hsz0 _
  have hval : ∀ (j : Nat) t v, Try.f4.params[j]? = some t → args[j]? = some v → Value.okWide Try.prog W .any base t v := hval0
  have hsz : (DataW.weightsEach Try.prog (Try.f4.params.toList ++ Rows.stageNewSpec.plain.varTypes Try.prog) (ds ++ gs)).all (· ≤ reachBytes) = true := hsz0
  have hW' := hW
  obtain ⟨p, q, hA0, hV, rfl, hfz, hnd⟩ := hW
  have hA : DataW.TrodAll enc Try.prog W 0 (fun _ => true) true Try.f4.params.toList args.toList ds p := hA0
  rw [Try.params4] at hA hval hsz
  obtain ⟨hargs, rfl, rfl⟩ := trodAll_nil hA
  obtain rfl : args = #[] := by cases args; simp_all
  obtain ⟨rfl, rfl⟩ := trodVars_none hV
  clear hA0 hval0 hsz hsz0
  refine (stageNew_walk W ).mono fun e W' ⟨he, bel⟩ => ?_
  subst he
  exact ⟨_, rfl, _, _, _, [], _, [], hW', trodAll_mk1 (shut_bool Try.underlying4 _), trodAll_mk0, rfl, bel.frame _, fun h => by cases h⟩

theorem stageNew_holds : Rows.StageNewSaid :=
  OpenClaim.holds_of_wide 4 Try.f4 rfl rfl rfl rfl rfl rfl rfl ⟨rfl, rfl, rfl, rfl, rfl⟩ rfl rfl rfl rfl rfl (by kernel_rfl) Try.func4 (by kernel_rfl)
    (of_decide_eq_true (by kernel_rfl)) (by unfold Func.isWrapper; first | (rw [if_pos (by decide +kernel)]; kernel_rfl) | (rw [if_neg (by decide +kernel)]; exact ⟨rfl, rfl⟩))
    (fun os started H enc _ => stageNew_lifted os started H enc)
#print axioms stageNew_holds
end Go.Proofs.Ytdnogggadocilae

/- For every list of entries l, the law MachinePlays answers true: machine.Play answers what the document says at l. No conditions but the form of the claim itself. -/
import Derived.Test.YtpbiojnmegemdadPlayDev
namespace Go.Proofs.Ytpbiojnmegemdad
open Go.ChangeShapes Go.WideShapes Go.ChangeAt Go.RowKit Go.Deep
open Go.ChangeMaps (open_string shut_string)
set_option linter.unusedVariables false
set_option linter.unusedSimpArgs false
attribute [local go_sem] app_list ext_list get_list byteAt_zero

set_option maxHeartbeats 1000000 in
theorem machinePlays_walk (w : World) (l : List (List UInt8)) {a : Option Addr} {n c : Nat} (h : Strs w (.slice a n c) l ∧ l.length * 16 ≤ 140737488351232) :
    Calls Try.prog 3 #[.slice a n c] w fun e w' => e = .returned (.bool true) ∧ Below w.heap.size w w' := by
  obtain ⟨hs, hz⟩ := h
  have hfit := play_fits newSt l newSt_fits
  have HR : Hid (RowAt w (.slice a n c) l.length 1 (l.map enc)) := hs.row
  have HZ : Hid (l.length * 16 ≤ 140737488355328) := by unfold Hid; omega
  go_enter Try.func3, Try.ntmps3
  go_wp2_with (at_builtin; refine wpList_copy_row _ rfl _ _ 22 rfl 9 Try.t9 _ 1 16 Try.underlying22 infoStr zeroStr sizeStr bytesStr rfl (by decide) (by decide) rfl _ l.length (l.map enc) rfl HR.out (enc_one _) HZ.out ?_)
  intro v1 w1 hown1 hb1
  have hs1 : Strs w1 v1 l := Strs.of_own hown1 (by omega) hs.bounds.2
  obtain ⟨a1, c1, rfl⟩ := own_form hown1
  clear hown1 HR HZ
  go_wp2_with fail
  refine (machPlay_any l _ _ hs1).mono ?_
  rintro e w2 ⟨v2, rfl, hn2, hb2⟩
  have hr2 := hn2.at hfit
  obtain ⟨a2, c2, a3, c3, a4, c4, rfl⟩ := hn2.form
  have hw2 := Below.seq hb1 hb2
  clear hn2 hb1 hb2 hs1
  obtain ⟨X, HX⟩ : ∃ X, Hid (playS newSt l = X) := ⟨_, rfl⟩
  obtain ⟨f, HF⟩ : ∃ f, Hid (playE newSt l = f) := ⟨_, rfl⟩
  rw [HX.out] at hr2 hfit ⊢
  rw [HF.out]
  have b2 := Box.new w2 28 [.slice a2 X.vol.now.length c2, .slice a3 X.vol.snaps.length c3, .slice a4 X.lasts.length c4]
  go_wp2_with fail
  refine (playedOf_any l _ _ ((hs.below hw2).below (below_alloc _ _))).mono ?_
  rintro e w3 ⟨v3, rfl, hn3, hb3⟩
  rw [HX.out] at hn3
  have hr3 := hn3.at hfit
  obtain ⟨a5, c5, a6, c6, a7, c7, rfl⟩ := hn3.form
  have b3 := b2.below hb3 (by simp)
  have hb23 : Below w2.heap.size w2 w3 := (below_alloc w2 (.cells #[.slice a2 X.vol.now.length c2, .slice a3 X.vol.snaps.length c3, .slice a4 X.lasts.length c4] 28)).trans (hb3.mono (by simp))
  have hr23 := hr2.below hb23
  have hw3 := Below.seq hw2 hb23
  clear b2 hn3 hb3 hb23 hw2 hr2
  have x0 := b3.cell 0 _ rfl
  have x1 := b3.cell 1 _ rfl
  have x2 := b3.cell 2 _ rfl
  have l3 := b3.lt
  have q1 : (f == f) = true := by simp
  rw [HF.out]
  go_wp2_with fail
  refine (sameState_any X _ _ _ (by exact hr23.below (below_alloc _ _)) (by exact hr3.below (below_alloc _ _))).mono ?_
  rintro e w4 ⟨rfl, hb4⟩
  go_wp2_with fail
  go_ret
  exact ⟨rfl, Below.seq (Below.seq hw3 (below_alloc _ _)) hb4⟩

theorem machinePlays_own : ownKnob Try.prog.godebug = none := by kernel_rfl
theorem machinePlays_laidOut : laidOutB Try.prog = true := by kernel_rfl

set_option maxRecDepth 100000 in
theorem machinePlays_lifted (os : Os) (started : os.Started) (H : Type) (enc : TypeId × Value → H) :
    ReturnsInHanded {} Try.checked os 3 .any (Rows.machinePlaysSpec.pre6 enc Try.prog Try.f3 Rows.machinePlaysRow.domain false) (Rows.machinePlaysSpec.post enc Try.prog Try.f3 false true false false) := by
  refine returnsInHanded_of_change_sized (C := Try.checked) machinePlays_own started (by kernel_rfl) Try.func3
    (ChangeSpec.witness6 (enc := enc) (C := Try.checked) false ⟨#[], #[.slice none 0 0], []⟩ 8 (by kernel_rfl) (by kernel_rfl) (by kernel_rfl) (by kernel_rfl)) ?_
  intro W base args ds gs before hval0 hW hcnd hsz0 _
  have hval : ∀ (j : Nat) t v, Try.f3.params[j]? = some t → args[j]? = some v → Value.okWide Try.prog W .any base t v := hval0
  have hsz : (DataW.weightsEach Try.prog (Try.f3.params.toList ++ Rows.machinePlaysSpec.plain.varTypes Try.prog) (ds ++ gs)).all (· ≤ reachBytes) = true := hsz0
  have hW' := hW
  obtain ⟨p, q, hA0, hV, rfl, hfz, hnd⟩ := hW
  have hA : DataW.TrodAll enc Try.prog W 0 (fun _ => true) true Try.f3.params.toList args.toList ds p := hA0
  rw [Try.params3] at hA hval hsz
  obtain ⟨v0, vs0, d0, ds0, p0, q0, hargs, rfl, rfl, h0, r0⟩ := trodAll_cons hA
  obtain ⟨rfl, rfl, rfl⟩ := trodAll_nil r0
  obtain rfl : args = #[v0] := by cases args; simp_all
  obtain ⟨rfl, rfl⟩ := trodVars_none hV
  have k0 := h0
  have lt0 : ∀ x ∈ p0, x.block < W.heap.size := by obtain ⟨m, hm⟩ := k0; exact DataW.trod_lt m _ _ _ hm
  obtain ⟨a0, n0, c0, rfl⟩ := okWide_slice Try.underlying22 (hval 0 22 v0 rfl rfl)
  obtain ⟨fu0, hf0⟩ := h0
  obtain ⟨x0, hx0⟩ := arg_strs hf0 (within_of hsz (j := 0) rfl rfl)
  clear hA0 hval0 hsz hsz0
  refine (machinePlays_walk W x0 hx0).mono fun e W' ⟨he, bel⟩ => ?_
  subst he
  exact ⟨_, rfl, _, _, _, [], _, [], hW', trodAll_mk1 (shut_bool Try.underlying4 _), (trodAll_cons_mk (Below.trod machinePlays_laidOut (by kernel_rfl) (of_decide_eq_true (by kernel_rfl)) k0 bel lt0) trodAll_mk0), rfl, bel.frame _, fun h => by cases h⟩

theorem machinePlays_holds : Rows.MachinePlaysSaid :=
  OpenClaim.holds_of_wide 3 Try.f3 rfl rfl rfl rfl rfl rfl rfl ⟨rfl, rfl, rfl, rfl, rfl⟩ rfl rfl rfl rfl rfl (by kernel_rfl) Try.func3 (by kernel_rfl)
    (of_decide_eq_true (by kernel_rfl)) (by unfold Func.isWrapper; first | (rw [if_pos (by decide +kernel)]; kernel_rfl) | (rw [if_neg (by decide +kernel)]; exact ⟨rfl, rfl⟩))
    (fun os started H enc _ => machinePlays_lifted os started H enc)
#print axioms machinePlays_holds
end Go.Proofs.Ytpbiojnmegemdad

/- For every state s and every entry, the law MachineApplies answers true: machine.Apply answers what the document says, and leaves s as it was. No conditions but the form of the claim itself. -/
import Derived.Test.YtpbiojnmegemdacMachDev
namespace Go.Proofs.Ytpbiojnmegemdac
open Go.ChangeShapes Go.WideShapes Go.ChangeAt Go.RowKit Go.Deep
open Go.ChangeMaps (open_string shut_string)
set_option linter.unusedVariables false
set_option linter.unusedSimpArgs false
attribute [local go_sem] app_list ext_list get_list byteAt_zero

set_option maxHeartbeats 2000000 in
theorem machineApplies_walk (w : World) (S : StateM) {cs : Array Value} (h : StAt w (.agg cs) S ∧ StFits S) (s : List UInt8) (hl : s.length ≤ 140737488351232) :
    Calls Try.prog 8 #[.agg cs, .string ⟨s.toArray⟩] w fun e w' => e = .returned (.bool true) ∧ Below w.heap.size w w' := by
  obtain ⟨hs, hz⟩ := h
  obtain ⟨vn, vs, vl, hcs, hv, hlast⟩ := id hs
  cases hcs
  obtain ⟨_, _, hve, ⟨an, cn, rfl, _⟩, ⟨aw, cw, rfl, _⟩⟩ := id hv
  cases hve
  obtain ⟨al, cl, rfl, _, _⟩ := id hlast
  have hf := hz.vol
  have HLZ : Hid (S.lasts.length * 40 ≤ 140737488355328) := hz.lasts
  have e0 := Box.new w 40 [.slice an S.vol.now.length cn, .slice aw S.vol.snaps.length cw, .slice al S.lasts.length cl]
  have hw3 := below_alloc w (.cells #[.slice an S.vol.now.length cn, .slice aw S.vol.snaps.length cw, .slice al S.lasts.length cl] 40)
  obtain ⟨w3, hw3e⟩ : ∃ w3, w3 = w.alloc (.cells #[.slice an S.vol.now.length cn, .slice aw S.vol.snaps.length cw, .slice al S.lasts.length cl] 40) := ⟨_, rfl⟩
  go_enter Try.func8, Try.ntmps8
  go_upto_region 1 with fail
  rw [← hw3e]
  rw [show (List.toArray [Value.slice an S.vol.now.length cn, .slice aw S.vol.snaps.length cw, .slice al S.lasts.length cl]) = #[.slice an S.vol.now.length cn, .slice aw S.vol.snaps.length cw, .slice al S.lasts.length cl] from rfl, ← hw3e] at e0
  rw [← hw3e] at hw3
  clear hw3e
  have HC : Hid (∀ W, Below w3.heap.size w3 W → Calls Try.prog 20 [.agg #[.slice an S.vol.now.length cn, .slice aw S.vol.snaps.length cw]].toArray W fun e w' => ∃ v', e = .returned v' ∧ (VolNew w' W.heap.size v' S.vol ∧ Below W.heap.size W w')) :=
    fun W hW => volumeCopy_any S.vol _ _ (hv.below (Below.far hw3 hW)) hf
  have HRW : Hid (∀ W, Below w3.heap.size w3 W → RowAt W (.slice al S.lasts.length cl) S.lasts.length 4 (lastsCells S.lasts)) := fun W hW => (hlast.below (Below.far hw3 hW)).row
  have HB0 : Hid (Box w3 w.heap.size _ _) := e0
  have l0 := e0.lt
  have x0 := e0.cell 0 _ rfl
  have x1 := e0.cell 1 _ rfl
  have x2 := e0.cell 2 _ rfl
  go_cut [5] (fun s9 wx => ∃ b9 a1 c1 a2 c2 a3 c3, s9 = .pointer (some ⟨b9, 0, none⟩) ∧ AppMid w3 S b9 (.slice a1 S.vol.now.length c1) (.slice a2 S.vol.snaps.length c2) (.slice a3 S.lasts.length c3) wx)
  case first =>
    go_region_law
      ((first
        | (refine step_go _ (by rfl) 20 _ _ (by rfl) _ (by rfl) enter_volumeCopy _ (HC.out _ (by (repeat (first | exact Below.refl _ _ | assumption | apply Below.drew | apply Below.up | (refine Below.far ?_ (by assumption)))))) ?_
           rintro u' wA ⟨hn3, hbA⟩
           obtain ⟨a1, c1, a2, c2, hu4⟩ := hn3.form
           subst hu4
           have hAU : Below w3.heap.size w3 wA := by (repeat (first | exact Below.refl _ _ | assumption | apply Below.drew | apply Below.up | (refine Below.far ?_ (by assumption))))
           have EA : Box wA w.heap.size _ _ := HB0.out.below hAU HB0.out.lt
           have xa0 := EA.cell 0 _ rfl
           have xa1 := EA.cell 1 _ rfl
           have xa2 := EA.cell 2 _ rfl
           have qa := EA.lt
           have qa' : w3.heap.size ≤ wA.heap.size := hAU.size
           first
             | (have B9A := B9B.below hbA B9B.lt
                have k0 := B9A.cell 0 _ rfl
                have k1 := B9A.cell 1 _ rfl
                have k2 := B9A.cell 2 _ rfl
                have k3 := B9A.frozen 0
                have k4 := B9A.frozen 1
                have k5 := B9A.frozen 2)
             | (have B9A : Box wA w3.heap.size 40 [.slice none 0 0, .slice none 0 0, .slice none 0 0] := (Box.new w3.drew 40 [.slice none 0 0, .slice none 0 0, .slice none 0 0]).below hbA (by simp <;> omega)
                have k0 := B9A.cell 0 _ rfl
                have k1 := B9A.cell 1 _ rfl
                have k2 := B9A.cell 2 _ rfl
                have k3 := B9A.frozen 0
                have k4 := B9A.frozen 1
                have k5 := B9A.frozen 2)
             | (have B9A : Box wA wB.heap.size 40 [.slice none 0 0, .slice none 0 0, .slice none 0 0] := (Box.new wB 40 [.slice none 0 0, .slice none 0 0, .slice none 0 0]).below hbA (by simp <;> omega)
                have k0 := B9A.cell 0 _ rfl
                have k1 := B9A.cell 1 _ rfl
                have k2 := B9A.cell 2 _ rfl
                have k3 := B9A.frozen 0
                have k4 := B9A.frozen 1
                have k5 := B9A.frozen 2)
             | skip)
        | (refine step_copy_row _ (by rfl) (.const (.slice none 0 0)) _ 38 (by rfl) 64 Try.t64 _ 4 40 Try.underlying38 infoLast zeroLastV sizeLast bytesLast rfl (by decide) (by decide) (by rfl) _ S.lasts.length (lastsCells S.lasts) (by rfl) (HRW.out _ (by (repeat (first | exact Below.refl _ _ | assumption | apply Below.drew | apply Below.up | (refine Below.far ?_ (by assumption)))))) (lastsCells_one _) HLZ.out ?_
           intro u3 wB hownB hbB
           obtain ⟨a3, c3, hu5⟩ := own_formN hownB
           subst hu5
           have hBU : Below w3.heap.size w3 wB := by (repeat (first | exact Below.refl _ _ | assumption | apply Below.drew | apply Below.up | (refine Below.far ?_ (by assumption))))
           have EB : Box wB w.heap.size _ _ := HB0.out.below hBU HB0.out.lt
           have xb0 := EB.cell 0 _ rfl
           have xb1 := EB.cell 1 _ rfl
           have xb2 := EB.cell 2 _ rfl
           have qb := EB.lt
           have qb' : w3.heap.size ≤ wB.heap.size := hBU.size
           first
             | (have B9B := B9A.below hbB B9A.lt
                have k0 := B9B.cell 0 _ rfl
                have k1 := B9B.cell 1 _ rfl
                have k2 := B9B.cell 2 _ rfl
                have k3 := B9B.frozen 0
                have k4 := B9B.frozen 1
                have k5 := B9B.frozen 2)
             | (have B9B : Box wB w3.heap.size 40 [.slice none 0 0, .slice none 0 0, .slice none 0 0] := (Box.new w3.drew 40 [.slice none 0 0, .slice none 0 0, .slice none 0 0]).below hbB (by simp <;> omega)
                have k0 := B9B.cell 0 _ rfl
                have k1 := B9B.cell 1 _ rfl
                have k2 := B9B.cell 2 _ rfl
                have k3 := B9B.frozen 0
                have k4 := B9B.frozen 1
                have k5 := B9B.frozen 2)
             | (have B9B : Box wB wA.heap.size 40 [.slice none 0 0, .slice none 0 0, .slice none 0 0] := (Box.new wA 40 [.slice none 0 0, .slice none 0 0, .slice none 0 0]).below hbB (by simp <;> omega)
                have k0 := B9B.cell 0 _ rfl
                have k1 := B9B.cell 1 _ rfl
                have k2 := B9B.cell 2 _ rfl
                have k3 := B9B.frozen 0
                have k4 := B9B.frozen 1
                have k5 := B9B.frozen 2)
             | skip)))
    all_goals go_wp2_with fail
    all_goals go_meet
    all_goals first
      | exact ⟨_, _, _, _, _, _, _, rfl, appMid_new hBU (hn3.below (by first | exact hbB | exact Below.far (below_alloc wA _) hbB)) (by first | assumption | omega | (simp <;> omega)) hownB (by first | assumption | omega | (simp <;> omega))⟩
      | exact ⟨_, _, _, _, _, _, _, rfl, appMid_new hAU hn3 (by first | assumption | omega | (simp <;> omega)) (own_below hownB (B := wB.heap.size) (by first | exact hbA | exact Below.far (below_alloc wB _) hbA) (own_lt hownB)) (by first | assumption | omega | (simp <;> omega))⟩
      | exact ⟨_, _, _, _, _, _, _, rfl, appMid_set hBU B9B (by omega) (hn3.below (by first | exact hbB | exact Below.far (below_alloc wA _) hbB)) (by first | assumption | omega | (simp <;> omega)) hownB (by first | assumption | omega | (simp <;> omega))⟩
      | exact ⟨_, _, _, _, _, _, _, rfl, appMid_set hAU B9A (by omega) hn3 (by first | assumption | omega | (simp <;> omega)) (own_below hownB (B := wB.heap.size) (by first | exact hbA | exact Below.far (below_alloc wB _) hbA) (own_lt hownB)) (by first | assumption | omega | (simp <;> omega))⟩
  case rest =>
    obtain ⟨b9, a1, c1, a2, c2, a3, c3, rfl, M⟩ := hcut
    have g0 := e0.below M.below e0.lt
    have hw4 : Below w.heap.size w wc := Below.far hw3 M.below
    have hk4 : StAt wc (.agg #[.slice a1 S.vol.now.length c1, .slice a2 S.vol.snaps.length c2, .slice a3 S.lasts.length c3]) S := (show StNew wc w3.heap.size _ S from ⟨_, _, _, rfl, M.vol, M.lasts⟩).at hz
    have g9 := M.out
    have l9 := g9.lt
    have l00 := g0.lt
    have n9 : ¬ b9 = w.heap.size := by have := M.ge9; omega
    have n9' : ¬ w.heap.size = b9 := fun e => n9 e.symm
    clear HC HRW HB0 x0 x1 x2 M e0 hw3 l0
    have z0 := g9.cell 0 _ rfl
    have z1 := g9.cell 1 _ rfl
    have z2 := g9.cell 2 _ rfl
    have hAf := appS_fits S s hz
    go_wp2_with fail
    refine (machApply_any S s _ _ hk4 (by omega)).mono ?_
    rintro e w5 ⟨v5, rfl, hn5, hb5⟩
    have hr5 := hn5.at hAf
    obtain ⟨a4, c4, a5, c5, a6, c6, rfl⟩ := hn5.form
    have d0 := g0.below hb5 l00
    have d9 := g9.below hb5 l9
    have hk5 := hk4.below hb5
    have hw5 := Below.seq hw4 hb5
    clear g0 g9 hk4 hw4 hb5 hn5 z0 z1 z2 l9 l00
    obtain ⟨X, HX⟩ : ∃ X, Hid (appS S s = X) := ⟨_, rfl⟩
    rw [HX.out] at hr5 hAf ⊢
    obtain ⟨f, HFF⟩ : ∃ f, Hid (appE S s = f) := ⟨_, rfl⟩
    rw [HFF.out]
    have b6 := Box.new w5 40 [.slice a4 X.vol.now.length c4, .slice a5 X.vol.snaps.length c5, .slice a6 X.lasts.length c6]
    have x0 := d0.cell 0 _ rfl
    have x1 := d0.cell 1 _ rfl
    have x2 := d0.cell 2 _ rfl
    have l0 := d0.lt
    have l9 := d9.lt
    go_wp2_with fail
    refine (appliedOf_any S s _ _ ((hs.below hw5).below (below_alloc _ _)) (by omega)).mono ?_
    rintro e w6 ⟨v6, rfl, hn6, hb6⟩
    rw [HX.out] at hn6
    have hr6 := hn6.at hAf
    obtain ⟨a7, c7, a8, c8, a9, c9, rfl⟩ := hn6.form
    have hb56 : Below w5.heap.size w5 w6 := (below_alloc w5 (.cells #[.slice a4 X.vol.now.length c4, .slice a5 X.vol.snaps.length c5, .slice a6 X.lasts.length c6] 40)).trans (hb6.mono (by simp))
    have m6 := b6.below hb6 (by simp)
    have m0 := d0.below hb56 l0
    have m9 := d9.below hb56 l9
    have hr56 := hr5.below hb56
    have hk6 := hk5.below hb56
    have hw6 := Below.seq hw5 hb56
    clear d0 d9 b6 hb6 hb56 hw5 hk5 hr5 hn6 x0 x1 x2 l0 l9
    have x0 := m0.cell 0 _ rfl
    have x1 := m0.cell 1 _ rfl
    have x2 := m0.cell 2 _ rfl
    have y0 := m9.cell 0 _ rfl
    have y1 := m9.cell 1 _ rfl
    have y2 := m9.cell 2 _ rfl
    have z0 := m6.cell 0 _ rfl
    have z1 := m6.cell 1 _ rfl
    have z2 := m6.cell 2 _ rfl
    have l0 := m0.lt
    have l9 := m9.lt
    have l6 := m6.lt
    have q1 : (f == f) = true := by simp
    rw [HFF.out]
    go_wp2_with fail
    refine (sameState_any X _ _ _ (by exact hr56.below (below_alloc _ _)) (by exact hr6.below (below_alloc _ _))).mono ?_
    rintro e w7 ⟨rfl, hb7⟩
    have hb67 : Below w6.heap.size w6 w7 := (below_alloc w6 (.cells #[.slice a7 X.vol.now.length c7, .slice a8 X.vol.snaps.length c8, .slice a9 X.lasts.length c9] 40)).trans (hb7.mono (by simp))
    have p0 := m0.below hb67 l0
    have p9 := m9.below hb67 l9
    have hk7 := hk6.below hb67
    have hw7 := Below.seq hw6 hb67
    have hs7 := hs.below hw7
    clear m0 m9 m6 hb7 hb67 hw6 hk6 hr56 hr6 x0 x1 x2 y0 y1 y2 z0 z1 z2 l0 l9 l6
    have x0 := p0.cell 0 _ rfl
    have x1 := p0.cell 1 _ rfl
    have x2 := p0.cell 2 _ rfl
    have y0 := p9.cell 0 _ rfl
    have y1 := p9.cell 1 _ rfl
    have y2 := p9.cell 2 _ rfl
    go_wp2_with fail
    refine (sameState_any S _ _ _ (by exact hk7) (by exact hs7)).mono ?_
    rintro e w8 ⟨rfl, hb8⟩
    go_wp2_with fail
    go_ret
    exact ⟨rfl, Below.seq hw7 hb8⟩

theorem machineApplies_own : ownKnob Try.prog.godebug = none := by kernel_rfl
theorem machineApplies_laidOut : laidOutB Try.prog = true := by kernel_rfl

set_option maxRecDepth 100000 in
theorem machineApplies_lifted (os : Os) (started : os.Started) (H : Type) (enc : TypeId × Value → H) :
    ReturnsInHanded {} Try.checked os 8 .any (Rows.machineAppliesSpec.pre6 enc Try.prog Try.f8 Rows.machineAppliesRow.domain false) (Rows.machineAppliesSpec.post enc Try.prog Try.f8 false true false false) := by
  refine returnsInHanded_of_change_sized (C := Try.checked) machineApplies_own started (by kernel_rfl) Try.func8
    (ChangeSpec.witness6 (enc := enc) (C := Try.checked) false ⟨#[], #[.agg #[.slice none 0 0, .slice none 0 0, .slice none 0 0], .string ByteArray.empty], []⟩ 8 (by kernel_rfl) (by kernel_rfl) (by kernel_rfl) (by kernel_rfl)) ?_
  intro W base args ds gs before hval0 hW hcnd hsz0 _
  have hval : ∀ (j : Nat) t v, Try.f8.params[j]? = some t → args[j]? = some v → Value.okWide Try.prog W .any base t v := hval0
  have hsz : (DataW.weightsEach Try.prog (Try.f8.params.toList ++ Rows.machineAppliesSpec.plain.varTypes Try.prog) (ds ++ gs)).all (· ≤ reachBytes) = true := hsz0
  have hW' := hW
  obtain ⟨p, q, hA0, hV, rfl, hfz, hnd⟩ := hW
  have hA : DataW.TrodAll enc Try.prog W 0 (fun _ => true) true Try.f8.params.toList args.toList ds p := hA0
  rw [Try.params8] at hA hval hsz
  obtain ⟨v0, vs0, d0, ds0, p0, q0, hargs, rfl, rfl, h0, r0⟩ := trodAll_cons hA
  obtain ⟨v1, vs1, d1, ds1, p1, q1, rfl, rfl, rfl, h1, r1⟩ := trodAll_cons r0
  obtain ⟨rfl, rfl, rfl⟩ := trodAll_nil r1
  obtain rfl : args = #[v0, v1] := by cases args; simp_all
  obtain ⟨rfl, rfl⟩ := trodVars_none hV
  have k0 := h0
  have lt0 : ∀ x ∈ p0, x.block < W.heap.size := by obtain ⟨m, hm⟩ := k0; exact DataW.trod_lt m _ _ _ hm
  have k1 := h1
  have lt1 : ∀ x ∈ p1, x.block < W.heap.size := by obtain ⟨m, hm⟩ := k1; exact DataW.trod_lt m _ _ _ hm
  obtain ⟨cs0, rfl, _⟩ := okWide_struct Try.underlying40 (hval 0 40 v0 rfl rfl)
  obtain ⟨fu0, hf0⟩ := h0
  obtain ⟨x0, hx0⟩ := arg_state hf0 (within_of hsz (j := 0) rfl rfl)
  obtain ⟨a1, rfl, rfl, rfl, w1⟩ := open_string Try.underlying9 (hval 1 9 v1 rfl rfl) h1
  have z1 := sized_string hsz (j := 1) (t := 9) rfl rfl
  obtain ⟨l1, rfl⟩ : ∃ l : List UInt8, a1 = ⟨l.toArray⟩ := ⟨a1.data.toList, by simp⟩
  have y1 : l1.length ≤ 140737488351232 := by simpa [reachBytes] using z1
  clear hA0 hval0 hsz hsz0
  refine (machineApplies_walk W x0 hx0 l1 y1).mono fun e W' ⟨he, bel⟩ => ?_
  subst he
  exact ⟨_, rfl, _, _, _, [], _, [], hW', trodAll_mk1 (shut_bool Try.underlying4 _), (trodAll_cons_mk (Below.trod machineApplies_laidOut (by kernel_rfl) (of_decide_eq_true (by kernel_rfl)) k0 bel lt0) (trodAll_cons_mk (Below.trod machineApplies_laidOut (by kernel_rfl) (of_decide_eq_true (by kernel_rfl)) k1 bel lt1) trodAll_mk0)), rfl, bel.frame _, fun h => by cases h⟩

theorem machineApplies_holds : Rows.MachineAppliesSaid :=
  OpenClaim.holds_of_wide 8 Try.f8 rfl rfl rfl rfl rfl rfl rfl ⟨rfl, rfl, rfl, rfl, rfl⟩ rfl rfl rfl rfl rfl (by kernel_rfl) Try.func8 (by kernel_rfl)
    (of_decide_eq_true (by kernel_rfl)) (by unfold Func.isWrapper; first | (rw [if_pos (by decide +kernel)]; kernel_rfl) | (rw [if_neg (by decide +kernel)]; exact ⟨rfl, rfl⟩))
    (fun os started H enc _ => machineApplies_lifted os started H enc)
#print axioms machineApplies_holds
end Go.Proofs.Ytpbiojnmegemdac

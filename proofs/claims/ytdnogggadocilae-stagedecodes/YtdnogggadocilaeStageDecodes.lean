/- For every string s, the law StageDecodes answers true: stage.Decode answers what the document says at s. No conditions but the form of the claim itself. -/
import Derived.Test.YtdnogggadocilaeKdecAll
import Derived.Test.YtdnogggadocilaeStageMath
import Derived.Test.YtdnogggadocilaeKdecGo3
import Derived.Test.YtdnogggadocilaeKeptSame
import Derived.Test.YtdnogggadocilaeKeptRead
namespace Go.Proofs.Ytdnogggadocilae
open Go.ChangeShapes Go.WideShapes Go.ChangeAt Go.RowKit Go.Deep
open Go.ChangeMaps (open_string shut_string)
set_option linter.unusedVariables false
set_option linter.unusedSimpArgs false
attribute [local go_sem] app_list ext_list get_list byteAt_zero

set_option maxHeartbeats 2000000 in
theorem stageDecodes_walk (w : World) (s : List UInt8) (hl : s.length ≤ 140737488351232) :
    Calls Try.prog 3 #[.string ⟨s.toArray⟩] w fun e w' => e = .returned (.bool true) ∧ Below w.heap.size w w' := by
  have hfit := kdecK_fits s
  have HD : Hid (∀ w, Calls _ _ _ w _) := fun w => stageDec_any s w (by omega)
  have HR : Hid (∀ w, Calls _ _ _ w _) := fun w => keptOf_any s w (by omega)
  obtain ⟨K, hK⟩ : ∃ K, kdecK s = K := ⟨_, rfl⟩
  rw [hK] at HD HR hfit
  clear hK
  have HFT : Hid (K.log.length ≤ 60 ∧ ∀ x ∈ K.log, x.length ≤ 40) := hfit
  have HA : Hid (∀ W B v, KeptNew W B v K → KeptAt W v K) := fun W B v h => h.at (by have := HFT.out.1; omega) (fun x hx => by have := HFT.out.2 x hx; omega)
  clear hfit
  generalize kdecE s = f at *
  generalize kdecG s = g at *
  go_enter Try.func3, Try.ntmps3
  go_wp2_with fail
  refine (HD.out _).mono ?_
  rintro e w1 ⟨v1, rfl, hn1, hb1⟩
  have hr1 := HA.out _ _ _ hn1
  obtain ⟨a1, c1, rfl⟩ := hn1.form
  clear hn1 HD
  obtain ⟨vw, nm, cm, l, ct⟩ := K
  simp only at hr1 ⊢
  have B1 := Box.new w1 24 [.int .i64 vw, .int .i64 nm, .bool cm, .slice a1 l.length c1, .int .i64 ct]
  go_wp2_with fail
  refine (HR.out _).mono ?_
  rintro e w2 ⟨v2, rfl, hn2, hb2⟩
  have hr2 := HA.out _ _ _ hn2
  obtain ⟨a2, c2, rfl⟩ := hn2.form
  simp only at hr2 ⊢
  have b1 := B1.below hb2 B1.lt
  have HB2 : Hid (Below w.heap.size w w2) := Below.seq (Below.seq hb1 (below_alloc _ _)) hb2
  have HR1 : Hid (KeptAt w2 _ _) := hr1.below (Below.far (below_alloc _ _) hb2)
  have HR2 : Hid (KeptAt w2 _ _) := hr2
  clear hn2 HR B1 hb1 hb2 hr1 hr2
  have x0 := b1.cell 0 _ rfl
  have x1 := b1.cell 1 _ rfl
  have x2 := b1.cell 2 _ rfl
  have x3 := b1.cell 3 _ rfl
  have x4 := b1.cell 4 _ rfl
  have l1 := b1.lt
  clear b1
  have q1 : (f == f) = true := by simp
  have q2 : (g == g) = true := by simp
  go_wp2_with fail
  refine (sameKept_same _ _ _ _ (HR1.out.below (below_alloc _ _)) (HR2.out.below (below_alloc _ _))).mono ?_
  rintro e w3 ⟨rfl, hb3⟩
  have HB3 : Hid (Below w.heap.size w w3) := Below.seq (Below.seq HB2.out (below_alloc _ _)) hb3
  clear hb3
  go_wp2_with fail
  go_ret
  exact ⟨rfl, HB3.out⟩

theorem stageDecodes_own : ownKnob Try.prog.godebug = none := by kernel_rfl
theorem stageDecodes_laidOut : laidOutB Try.prog = true := by kernel_rfl

set_option maxRecDepth 100000 in
theorem stageDecodes_lifted (os : Os) (started : os.Started) (H : Type) (enc : TypeId × Value → H) :
    ReturnsInHanded {} Try.checked os 3 .any (Rows.stageDecodesSpec.pre6 enc Try.prog Try.f3 Rows.stageDecodesRow.domain false) (Rows.stageDecodesSpec.post enc Try.prog Try.f3 false true false false) := by
  refine returnsInHanded_of_change_sized (C := Try.checked) stageDecodes_own started (by kernel_rfl) Try.func3
    (ChangeSpec.witness6 (enc := enc) (C := Try.checked) false ⟨#[], #[.string ByteArray.empty], []⟩ 8 (by kernel_rfl) (by kernel_rfl) (by kernel_rfl) (by kernel_rfl)) ?_
  intro W base args ds gs before hval0 hW hcnd hsz0 _
  have hval : ∀ (j : Nat) t v, Try.f3.params[j]? = some t → args[j]? = some v → Value.okWide Try.prog W .any base t v := hval0
  have hsz : (DataW.weightsEach Try.prog (Try.f3.params.toList ++ Rows.stageDecodesSpec.plain.varTypes Try.prog) (ds ++ gs)).all (· ≤ reachBytes) = true := hsz0
  have hW' := hW
  obtain ⟨p, q, hA0, hV, rfl, hfz, hnd⟩ := hW
  have hA : DataW.TrodAll enc Try.prog W 0 (fun _ => true) true Try.f3.params.toList args.toList ds p := hA0
  rw [Try.params3] at hA hval hsz
  obtain ⟨v0, vs0, d0, ds0, p0, q0, hargs, rfl, rfl, h0, r0⟩ := trodAll_cons hA
  obtain ⟨rfl, rfl, rfl⟩ := trodAll_nil r0
  obtain rfl : args = #[v0] := by cases args; simp_all
  obtain ⟨rfl, rfl⟩ := trodVars_none hV
  have k0 := h0
  have lt0 : ∀ x ∈ p0, x.block < W.heap.size := by obtain ⟨m, hm⟩ := k0; exact DataW.trod_lt m _ _ _ hm
  obtain ⟨a0, rfl, rfl, rfl, w0⟩ := open_string Try.underlying9 (hval 0 9 v0 rfl rfl) h0
  have z0 := sized_string hsz (j := 0) (t := 9) rfl rfl
  obtain ⟨l0, rfl⟩ : ∃ l : List UInt8, a0 = ⟨l.toArray⟩ := ⟨a0.data.toList, by simp⟩
  have y0 : l0.length ≤ 140737488351232 := by simpa [reachBytes] using z0
  clear hA0 hval0 hsz hsz0
  refine (stageDecodes_walk W l0 y0).mono fun e W' ⟨he, bel⟩ => ?_
  subst he
  exact ⟨_, rfl, _, _, _, [], _, [], hW', trodAll_mk1 (shut_bool Try.underlying4 _), (trodAll_cons_mk (Below.trod stageDecodes_laidOut (by kernel_rfl) (of_decide_eq_true (by kernel_rfl)) k0 bel lt0) trodAll_mk0), rfl, bel.frame _, fun h => by cases h⟩

theorem stageDecodes_holds : Rows.StageDecodesSaid :=
  OpenClaim.holds_of_wide 3 Try.f3 rfl rfl rfl rfl rfl rfl rfl ⟨rfl, rfl, rfl, rfl, rfl⟩ rfl rfl rfl rfl rfl (by kernel_rfl) Try.func3 (by kernel_rfl)
    (of_decide_eq_true (by kernel_rfl)) (by unfold Func.isWrapper; first | (rw [if_pos (by decide +kernel)]; kernel_rfl) | (rw [if_neg (by decide +kernel)]; exact ⟨rfl, rfl⟩))
    (fun os started H enc _ => stageDecodes_lifted os started H enc)
#print axioms stageDecodes_holds
end Go.Proofs.Ytdnogggadocilae

/- For every list of slots, the law StageLoads answers true: stage.Load answers what the document says. No conditions but the form of the claim itself. -/
import Derived.Test.YtdnogggadocilaeLoadGo
import Derived.Test.YtdnogggadocilaeLoadRef
import Derived.Test.YtdnogggadocilaeKeptSame
import Derived.Test.YtdnogggadocilaeKeptRead
namespace Go.Proofs.Ytdnogggadocilae
open Go.ChangeShapes Go.WideShapes Go.ChangeAt Go.RowKit Go.Deep
open Go.ChangeMaps (open_string shut_string)
set_option linter.unusedVariables false
set_option linter.unusedSimpArgs false
attribute [local go_sem] app_list ext_list get_list byteAt_zero

set_option maxHeartbeats 2000000 in
theorem stageLoads_walk (w : World) (l : List (List UInt8)) {a : Option Addr} {n c : Nat} (h : Strs w (.slice a n c) l ∧ l.length * 16 ≤ 140737488351232) :
    Calls Try.prog 5 #[.slice a n c] w fun e w' => e = .returned (.bool true) ∧ Below w.heap.size w w' := by
  obtain ⟨h, hz⟩ := h
  have HD : Hid (∀ W, Below w.heap.size w W → Calls _ _ _ W _) := fun W hW => stageLoad_any l _ W (h.below hW)
  have HR : Hid (∀ W, Below w.heap.size w W → Calls _ _ _ W _) := fun W hW => loadedOf_any l _ W (h.below hW)
  have hfit := loadK_fits l
  obtain ⟨K, hK⟩ : ∃ K, loadK l = K := ⟨_, rfl⟩
  rw [hK] at HD HR hfit
  have HFT : Hid (K.log.length ≤ 60 ∧ ∀ x ∈ K.log, x.length ≤ 40) := hfit
  have HA : Hid (∀ W B v, KeptNew W B v K → KeptAt W v K) := fun W B v h => h.at (by have := HFT.out.1; omega) (fun x hx => by have := HFT.out.2 x hx; omega)
  clear hK hfit h
  generalize loadE l = f at *
  generalize loadG l = g at *
  generalize loadA l = p at *
  go_enter Try.func5, Try.ntmps5
  go_wp2_with fail
  refine (HD.out _ (Below.refl _ _)).mono ?_
  rintro e w1 ⟨v1, rfl, hn1, hb1⟩
  have hr1 := HA.out _ _ _ hn1
  obtain ⟨a1, c1, rfl⟩ := hn1.form
  clear hn1 HD
  obtain ⟨vw, nm, cm, lg, ct⟩ := K
  simp only at hr1 ⊢
  have B1 := Box.new w1 24 [.int .i64 vw, .int .i64 nm, .bool cm, .slice a1 lg.length c1, .int .i64 ct]
  go_wp2_with fail
  refine (HR.out _ (Below.seq hb1 (below_alloc _ _))).mono ?_
  rintro e w2 ⟨v2, rfl, hn2, hb2⟩
  have hr2 := HA.out _ _ _ hn2
  obtain ⟨a2, c2, rfl⟩ := hn2.form
  simp only at hr2 ⊢
  have b1 := B1.below hb2 B1.lt
  have HB2 : Hid (Below w.heap.size w w2) := Below.seq (Below.seq hb1 (below_alloc _ _)) hb2
  have HR1 : Hid (KeptAt w2 _ _) := hr1.below (Below.far (below_alloc _ _) hb2)
  have HR2 : Hid (KeptAt w2 _ _) := hr2
  clear hn2 HR B1 hb1 hb2 hr1 hr2
  have x0 := b1.cell 0 _ rfl
  have x1 := b1.cell 1 _ rfl
  have x2 := b1.cell 2 _ rfl
  have x3 := b1.cell 3 _ rfl
  have x4 := b1.cell 4 _ rfl
  have l1 := b1.lt
  clear b1
  have q1 : (f == f) = true := by simp
  have q2 : (g == g) = true := by simp
  have q3 : (p == p) = true := by simp
  go_wp2_with fail
  refine (sameKept_same _ _ _ _ (HR1.out.below (below_alloc _ _)) (HR2.out.below (below_alloc _ _))).mono ?_
  rintro e w3 ⟨rfl, hb3⟩
  have HB3 : Hid (Below w.heap.size w w3) := Below.seq (Below.seq HB2.out (below_alloc _ _)) hb3
  clear hb3
  go_wp2_with fail
  go_ret
  exact ⟨rfl, HB3.out⟩

theorem stageLoads_own : ownKnob Try.prog.godebug = none := by kernel_rfl
theorem stageLoads_laidOut : laidOutB Try.prog = true := by kernel_rfl

set_option maxRecDepth 100000 in
theorem stageLoads_lifted (os : Os) (started : os.Started) (H : Type) (enc : TypeId × Value → H) :
    ReturnsInHanded {} Try.checked os 5 .any (Rows.stageLoadsSpec.pre6 enc Try.prog Try.f5 Rows.stageLoadsRow.domain false) (Rows.stageLoadsSpec.post enc Try.prog Try.f5 false true false false) := by
  refine returnsInHanded_of_change_sized (C := Try.checked) stageLoads_own started (by kernel_rfl) Try.func5
    (ChangeSpec.witness6 (enc := enc) (C := Try.checked) false ⟨#[], #[.slice none 0 0], []⟩ 8 (by kernel_rfl) (by kernel_rfl) (by kernel_rfl) (by kernel_rfl)) ?_
  intro W base args ds gs before hval0 hW hcnd hsz0 _
  have hval : ∀ (j : Nat) t v, Try.f5.params[j]? = some t → args[j]? = some v → Value.okWide Try.prog W .any base t v := hval0
  have hsz : (DataW.weightsEach Try.prog (Try.f5.params.toList ++ Rows.stageLoadsSpec.plain.varTypes Try.prog) (ds ++ gs)).all (· ≤ reachBytes) = true := hsz0
  have hW' := hW
  obtain ⟨p, q, hA0, hV, rfl, hfz, hnd⟩ := hW
  have hA : DataW.TrodAll enc Try.prog W 0 (fun _ => true) true Try.f5.params.toList args.toList ds p := hA0
  rw [Try.params5] at hA hval hsz
  obtain ⟨v0, vs0, d0, ds0, p0, q0, hargs, rfl, rfl, h0, r0⟩ := trodAll_cons hA
  obtain ⟨rfl, rfl, rfl⟩ := trodAll_nil r0
  obtain rfl : args = #[v0] := by cases args; simp_all
  obtain ⟨rfl, rfl⟩ := trodVars_none hV
  have k0 := h0
  have lt0 : ∀ x ∈ p0, x.block < W.heap.size := by obtain ⟨m, hm⟩ := k0; exact DataW.trod_lt m _ _ _ hm
  obtain ⟨a0, n0, c0, rfl⟩ := okWide_slice Try.underlying22 (hval 0 22 v0 rfl rfl)
  obtain ⟨fu0, hf0⟩ := h0
  obtain ⟨x0, hx0⟩ := arg_strs hf0 (within_of hsz (j := 0) rfl rfl)
  clear hA0 hval0 hsz hsz0
  refine (stageLoads_walk W x0 hx0).mono fun e W' ⟨he, bel⟩ => ?_
  subst he
  exact ⟨_, rfl, _, _, _, [], _, [], hW', trodAll_mk1 (shut_bool Try.underlying4 _), (trodAll_cons_mk (Below.trod stageLoads_laidOut (by kernel_rfl) (of_decide_eq_true (by kernel_rfl)) k0 bel lt0) trodAll_mk0), rfl, bel.frame _, fun h => by cases h⟩

theorem stageLoads_holds : Rows.StageLoadsSaid :=
  OpenClaim.holds_of_wide 5 Try.f5 rfl rfl rfl rfl rfl rfl rfl ⟨rfl, rfl, rfl, rfl, rfl⟩ rfl rfl rfl rfl rfl (by kernel_rfl) Try.func5 (by kernel_rfl)
    (of_decide_eq_true (by kernel_rfl)) (by unfold Func.isWrapper; first | (rw [if_pos (by decide +kernel)]; kernel_rfl) | (rw [if_neg (by decide +kernel)]; exact ⟨rfl, rfl⟩))
    (fun os started H enc _ => stageLoads_lifted os started H enc)
#print axioms stageLoads_holds
end Go.Proofs.Ytdnogggadocilae

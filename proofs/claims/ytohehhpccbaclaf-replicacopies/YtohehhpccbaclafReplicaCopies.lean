/- For every replica, the law ReplicaCopies answers true: replica.Copy answers a replica that is the same. No conditions but the form of the claim itself. -/
import Derived.Test.YtohehhpccbaclafReplRead
import Derived.Test.YtohehhpccbaclafCopyGo
import Derived.Test.YtohehhpccbaclafReplSame
namespace Go.Proofs.Ytohehhpccbaclaf
open Go.ChangeShapes Go.WideShapes Go.ChangeAt Go.RowKit Go.Deep
open Go.ChangeMaps (open_string shut_string)
set_option linter.unusedVariables false
set_option linter.unusedSimpArgs false
attribute [local go_sem] app_list ext_list get_list byteAt_zero

set_option maxRecDepth 4000 in
set_option maxHeartbeats 2000000 in
theorem replicaCopies_walk (w : World) (R : ReplM) {cs : Array Value} (h : ReplAt w (.agg cs) R ∧ ReplFits R) :
    Calls Try.prog 5 #[.agg cs] w fun e w' => e = .returned (.bool true) ∧ Below w.heap.size w w' := by
  obtain ⟨h, hz⟩ := h
  have HC : Hid (∀ W, Below w.heap.size w W → Calls _ _ _ W _) := fun W hW => replCopy_any R _ W (h.below hW) hz
  have HA : Hid (∀ W B v, ReplNew W B v R → ReplAt W v R) := fun W B v h => h.at hz
  have HK : Hid (ReplAt w (.agg cs) R) := h
  obtain ⟨vl, vh, vw, vg, vn, hv, hl, hh, hw, hg, hn⟩ := h
  cases hv
  obtain ⟨me, ⟨vi, nm, cm, l, ct⟩, hav, wants, gives, given⟩ := R
  simp only [replCells] at HC HK HA ⊢
  have b0 := Box.new w 29 [.int .i64 me, .int .i64 vi, .int .i64 nm, .bool cm, vl, .int .i64 ct, vh, vw, vg, vn]
  have hb := below_alloc w (.cells #[.int .i64 me, .int .i64 vi, .int .i64 nm, .bool cm, vl, .int .i64 ct, vh, vw, vg, vn] 29)
  obtain ⟨al, cl, rfl, _, _⟩ := hl
  obtain ⟨ah, ch, rfl, _, _⟩ := hh
  obtain ⟨aw, cw, rfl, _, _⟩ := hw
  obtain ⟨ag, cg, rfl, _, _⟩ := hg
  obtain ⟨an, cn, rfl, _, _⟩ := hn
  simp only at *
  go_enter Try.func5, Try.ntmps5
  go_wp2_with fail
  refine (HC.out _ hb).mono ?_
  rintro e w1 ⟨v1, rfl, hn1, hb1⟩
  have hr1 := HA.out _ _ _ hn1
  obtain ⟨al1, cl1, ah1, ch1, aw1, cw1, ag1, cg1, an1, cn1, rfl⟩ := hn1.form
  simp only at hr1 ⊢
  have b1 := b0.below hb1 b0.lt
  have HB1 : Hid (Below w.heap.size w w1) := Below.far hb hb1
  have HR1 : Hid (ReplAt w1 _ _) := hr1
  have x0 := b1.cell 0 _ rfl
  have x1 := b1.cell 1 _ rfl
  have x2 := b1.cell 2 _ rfl
  have x3 := b1.cell 3 _ rfl
  have x4 := b1.cell 4 _ rfl
  have x5 := b1.cell 5 _ rfl
  have x6 := b1.cell 6 _ rfl
  have x7 := b1.cell 7 _ rfl
  have x8 := b1.cell 8 _ rfl
  have x9 := b1.cell 9 _ rfl
  have lx := b1.lt
  clear b0 b1 hb hb1 HC hn1 hr1
  go_wp2_with fail
  refine (sameReplica_same _ _ _ _ (HR1.out.below (below_alloc _ _)) ((HK.out.below HB1.out).below (below_alloc _ _))).mono ?_
  rintro e w2 ⟨rfl, hb2⟩
  have HB2 : Hid (Below w.heap.size w w2) := Below.far (Below.up HB1.out _) hb2
  clear hb2 x0 x1 x2 x3 x4 x5 x6 x7 x8 x9
  go_wp2_with fail
  go_ret
  exact ⟨rfl, HB2.out⟩

theorem replicaCopies_own : ownKnob Try.prog.godebug = none := by kernel_rfl
theorem replicaCopies_laidOut : laidOutB Try.prog = true := by kernel_rfl

set_option maxRecDepth 100000 in
theorem replicaCopies_lifted (os : Os) (started : os.Started) (H : Type) (enc : TypeId × Value → H) :
    ReturnsInHanded {} Try.checked os 5 .any (Rows.replicaCopiesSpec.pre6 enc Try.prog Try.f5 Rows.replicaCopiesRow.domain false) (Rows.replicaCopiesSpec.post enc Try.prog Try.f5 false true false false) := by
  refine returnsInHanded_of_change_sized (C := Try.checked) replicaCopies_own started (by kernel_rfl) Try.func5
    (ChangeSpec.witness6 (enc := enc) (C := Try.checked) false ⟨#[], #[.agg #[.int .i64 0, .int .i64 0, .int .i64 0, .bool false, .slice none 0 0, .int .i64 0, .slice none 0 0, .slice none 0 0, .slice none 0 0, .slice none 0 0]], []⟩ 8 (by kernel_rfl) (by kernel_rfl) (by kernel_rfl) (by kernel_rfl)) ?_
  intro W base args ds gs before hval0 hW hcnd hsz0 _
  have hval : ∀ (j : Nat) t v, Try.f5.params[j]? = some t → args[j]? = some v → Value.okWide Try.prog W .any base t v := hval0
  have hsz : (DataW.weightsEach Try.prog (Try.f5.params.toList ++ Rows.replicaCopiesSpec.plain.varTypes Try.prog) (ds ++ gs)).all (· ≤ reachBytes) = true := hsz0
  have hW' := hW
  obtain ⟨p, q, hA0, hV, rfl, hfz, hnd⟩ := hW
  have hA : DataW.TrodAll enc Try.prog W 0 (fun _ => true) true Try.f5.params.toList args.toList ds p := hA0
  rw [Try.params5] at hA hval hsz
  obtain ⟨v0, vs0, d0, ds0, p0, q0, hargs, rfl, rfl, h0, r0⟩ := trodAll_cons hA
  obtain ⟨rfl, rfl, rfl⟩ := trodAll_nil r0
  obtain rfl : args = #[v0] := by cases args; simp_all
  obtain ⟨rfl, rfl⟩ := trodVars_none hV
  have k0 := h0
  have lt0 : ∀ x ∈ p0, x.block < W.heap.size := by obtain ⟨m, hm⟩ := k0; exact DataW.trod_lt m _ _ _ hm
  obtain ⟨cs0, rfl, _⟩ := okWide_struct Try.underlying29 (hval 0 29 v0 rfl rfl)
  obtain ⟨fu0, hf0⟩ := h0
  obtain ⟨x0, hx0⟩ := arg_repl hf0 (within_of hsz (j := 0) rfl rfl)
  clear hA0 hval0 hsz hsz0
  refine (replicaCopies_walk W x0 hx0).mono fun e W' ⟨he, bel⟩ => ?_
  subst he
  exact ⟨_, rfl, _, _, _, [], _, [], hW', trodAll_mk1 (shut_bool Try.underlying4 _), (trodAll_cons_mk (Below.trod replicaCopies_laidOut (by kernel_rfl) (of_decide_eq_true (by kernel_rfl)) k0 bel lt0) trodAll_mk0), rfl, bel.frame _, fun h => by cases h⟩

theorem replicaCopies_holds : Rows.ReplicaCopiesSaid :=
  OpenClaim.holds_of_wide 5 Try.f5 rfl rfl rfl rfl rfl rfl rfl ⟨rfl, rfl, rfl, rfl, rfl⟩ rfl rfl rfl rfl rfl (by kernel_rfl) Try.func5 (by kernel_rfl)
    (of_decide_eq_true (by kernel_rfl)) (by unfold Func.isWrapper; first | (rw [if_pos (by decide +kernel)]; kernel_rfl) | (rw [if_neg (by decide +kernel)]; exact ⟨rfl, rfl⟩))
    (fun os started H enc _ => replicaCopies_lifted os started H enc)
#print axioms replicaCopies_holds
end Go.Proofs.Ytohehhpccbaclaf

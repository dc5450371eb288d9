/- For every message, the law ReplicaMessages answers true: replica.CheckMessage answers what the document says. No conditions but the form of the claim itself. -/
import Derived.Test.YtohehhpccbaclafMsgRef
import Derived.Test.YtohehhpccbaclafReplRead
namespace Go.Proofs.Ytohehhpccbaclaf
open Go.ChangeShapes Go.WideShapes Go.ChangeAt Go.RowKit Go.Deep
open Go.ChangeMaps (open_string shut_string)
set_option linter.unusedVariables false
set_option linter.unusedSimpArgs false
attribute [local go_sem] app_list ext_list get_list byteAt_zero

set_option maxHeartbeats 1000000 in
theorem replicaMessages_walk (w : World) (M : MsgM) {cs : Array Value} (h : MsgAt w (.agg cs) M ∧ TextsIn M.log) :
    Calls Try.prog 8 #[.agg cs] w fun e w' => e = .returned (.bool true) ∧ Below w.heap.size w w' := by
  obtain ⟨h, hz⟩ := h
  have HC : Hid (∀ W, Below w.heap.size w W → Calls _ _ _ W _) := fun W hW => msgCheck_any M _ W (h.below hW)
  have HR : Hid (∀ W, Below w.heap.size w W → Calls _ _ _ W _) := fun W hW => msgFaultOf_any M _ W (h.below hW)
  obtain ⟨vl, hv, hs⟩ := h
  cases hv
  obtain ⟨a, c, rfl, _, _⟩ := hs
  generalize msgFault M = f at *
  obtain ⟨kd, fr, ds, vi, nm, ct, n, l⟩ := M
  simp only [msgCells] at *
  have b0 := Box.new w 41 [.int .i64 kd, .int .i64 fr, .int .i64 ds, .int .i64 vi, .int .i64 nm, .int .i64 ct, .int .i64 n, .slice a l.length c]
  have hb := below_alloc w (.cells #[.int .i64 kd, .int .i64 fr, .int .i64 ds, .int .i64 vi, .int .i64 nm, .int .i64 ct, .int .i64 n, .slice a l.length c] 41)
  go_enter Try.func8, Try.ntmps8
  go_wp2_with fail
  refine (HC.out _ hb).mono ?_
  rintro e w1 ⟨rfl, hb1⟩
  have b1 := b0.below hb1 b0.lt
  have HB1 : Hid (Below w.heap.size w w1) := Below.far hb hb1
  have x0 := b1.cell 0 _ rfl
  have x1 := b1.cell 1 _ rfl
  have x2 := b1.cell 2 _ rfl
  have x3 := b1.cell 3 _ rfl
  have x4 := b1.cell 4 _ rfl
  have x5 := b1.cell 5 _ rfl
  have x6 := b1.cell 6 _ rfl
  have x7 := b1.cell 7 _ rfl
  have lx := b1.lt
  clear b0 b1 hb hb1 HC
  go_wp2_with fail
  refine (HR.out _ HB1.out).mono ?_
  rintro e w2 ⟨rfl, hb2⟩
  have HB2 : Hid (Below w.heap.size w w2) := Below.far HB1.out hb2
  clear hb2 HR x0 x1 x2 x3 x4 x5 x6 x7
  go_wp2_with fail
  go_ret
  exact ⟨by simp, HB2.out⟩

theorem replicaMessages_own : ownKnob Try.prog.godebug = none := by kernel_rfl
theorem replicaMessages_laidOut : laidOutB Try.prog = true := by kernel_rfl

set_option maxRecDepth 100000 in
theorem replicaMessages_lifted (os : Os) (started : os.Started) (H : Type) (enc : TypeId × Value → H) :
    ReturnsInHanded {} Try.checked os 8 .any (Rows.replicaMessagesSpec.pre6 enc Try.prog Try.f8 Rows.replicaMessagesRow.domain false) (Rows.replicaMessagesSpec.post enc Try.prog Try.f8 false true false false) := by
  refine returnsInHanded_of_change_sized (C := Try.checked) replicaMessages_own started (by kernel_rfl) Try.func8
    (ChangeSpec.witness6 (enc := enc) (C := Try.checked) false ⟨#[], #[.agg #[.int .i64 0, .int .i64 0, .int .i64 0, .int .i64 0, .int .i64 0, .int .i64 0, .int .i64 0, .slice none 0 0]], []⟩ 8 (by kernel_rfl) (by kernel_rfl) (by kernel_rfl) (by kernel_rfl)) ?_
  intro W base args ds gs before hval0 hW hcnd hsz0 _
  have hval : ∀ (j : Nat) t v, Try.f8.params[j]? = some t → args[j]? = some v → Value.okWide Try.prog W .any base t v := hval0
  have hsz : (DataW.weightsEach Try.prog (Try.f8.params.toList ++ Rows.replicaMessagesSpec.plain.varTypes Try.prog) (ds ++ gs)).all (· ≤ reachBytes) = true := hsz0
  have hW' := hW
  obtain ⟨p, q, hA0, hV, rfl, hfz, hnd⟩ := hW
  have hA : DataW.TrodAll enc Try.prog W 0 (fun _ => true) true Try.f8.params.toList args.toList ds p := hA0
  rw [Try.params8] at hA hval hsz
  obtain ⟨v0, vs0, d0, ds0, p0, q0, hargs, rfl, rfl, h0, r0⟩ := trodAll_cons hA
  obtain ⟨rfl, rfl, rfl⟩ := trodAll_nil r0
  obtain rfl : args = #[v0] := by cases args; simp_all
  obtain ⟨rfl, rfl⟩ := trodVars_none hV
  have k0 := h0
  have lt0 : ∀ x ∈ p0, x.block < W.heap.size := by obtain ⟨m, hm⟩ := k0; exact DataW.trod_lt m _ _ _ hm
  obtain ⟨cs0, rfl, _⟩ := okWide_struct Try.underlying41 (hval 0 41 v0 rfl rfl)
  obtain ⟨fu0, hf0⟩ := h0
  obtain ⟨x0, hx0⟩ := arg_msg hf0 (within_of hsz (j := 0) rfl rfl)
  clear hA0 hval0 hsz hsz0
  refine (replicaMessages_walk W x0 hx0).mono fun e W' ⟨he, bel⟩ => ?_
  subst he
  exact ⟨_, rfl, _, _, _, [], _, [], hW', trodAll_mk1 (shut_bool Try.underlying4 _), (trodAll_cons_mk (Below.trod replicaMessages_laidOut (by kernel_rfl) (of_decide_eq_true (by kernel_rfl)) k0 bel lt0) trodAll_mk0), rfl, bel.frame _, fun h => by cases h⟩

theorem replicaMessages_holds : Rows.ReplicaMessagesSaid :=
  OpenClaim.holds_of_wide 8 Try.f8 rfl rfl rfl rfl rfl rfl rfl ⟨rfl, rfl, rfl, rfl, rfl⟩ rfl rfl rfl rfl rfl (by kernel_rfl) Try.func8 (by kernel_rfl)
    (of_decide_eq_true (by kernel_rfl)) (by unfold Func.isWrapper; first | (rw [if_pos (by decide +kernel)]; kernel_rfl) | (rw [if_neg (by decide +kernel)]; exact ⟨rfl, rfl⟩))
    (fun os started H enc _ => replicaMessages_lifted os started H enc)
#print axioms replicaMessages_holds
end Go.Proofs.Ytohehhpccbaclaf

/- For every string s, the law MachineDecodes answers true: machine.Decode answers what the document says at s. No conditions but the form of the claim itself. -/
import Derived.Test.YtpbiojnmegemdacMachDevA
namespace Go.Proofs.Ytpbiojnmegemdac
open Go.ChangeShapes Go.WideShapes Go.ChangeAt Go.RowKit Go.Deep
open Go.ChangeMaps (open_string shut_string)
set_option linter.unusedVariables false
set_option linter.unusedSimpArgs false
attribute [local go_sem] app_list ext_list get_list byteAt_zero

set_option maxHeartbeats 1000000 in
theorem machineDecodes_walk (w : World) (s : List UInt8) (hl : s.length ≤ 140737488351232) :
    Calls Try.prog 5 #[.string ⟨s.toArray⟩] w fun e w' => e = .returned (.bool true) ∧ Below w.heap.size w w' := by
  have HD : Hid (∀ w, Calls _ _ _ w _) := fun w => machDec_any s w (by omega)
  have HR : Hid (∀ w, Calls _ _ _ w _) := fun w => entryOf_any s w (by omega)
  obtain ⟨r, hr⟩ : ∃ r, decR s = r := ⟨_, rfl⟩
  rw [hr] at HD HR
  clear hr
  generalize decE s = f at *
  obtain ⟨c, n, k, p, sn, d⟩ := r
  unfold reqVal at HD HR
  go_enter Try.func5, Try.ntmps5
  go_wp2_with fail
  refine (HD.out _).mono ?_
  rintro e w1 ⟨rfl, hb1⟩
  go_wp2_with fail
  refine (HR.out _).mono ?_
  rintro e w2 ⟨rfl, hb2⟩
  have b0 := (Box.new w1 25 [.int .i64 c, .int .i64 n, .int .i64 k, .int .i64 p, .int .i64 sn, .string ⟨d.toArray⟩]).below hb2 (by simp)
  have x0 := b0.cell 0 _ rfl
  have x1 := b0.cell 1 _ rfl
  have x2 := b0.cell 2 _ rfl
  have x3 := b0.cell 3 _ rfl
  have x4 := b0.cell 4 _ rfl
  have x5 := b0.cell 5 _ rfl
  have l0 := b0.lt
  have HB : Hid (Below w.heap.size w w2) := Below.seq (Below.seq hb1 (below_alloc _ _)) hb2
  clear hb1 hb2 b0
  go_wp2_with fail
  go_ret
  exact ⟨by simp, Below.seq HB.out (below_alloc _ _)⟩

theorem machineDecodes_own : ownKnob Try.prog.godebug = none := by kernel_rfl
theorem machineDecodes_laidOut : laidOutB Try.prog = true := by kernel_rfl

set_option maxRecDepth 100000 in
theorem machineDecodes_lifted (os : Os) (started : os.Started) (H : Type) (enc : TypeId × Value → H) :
    ReturnsInHanded {} Try.checked os 5 .any (Rows.machineDecodesSpec.pre6 enc Try.prog Try.f5 Rows.machineDecodesRow.domain false) (Rows.machineDecodesSpec.post enc Try.prog Try.f5 false true false false) := by
  refine returnsInHanded_of_change_sized (C := Try.checked) machineDecodes_own started (by kernel_rfl) Try.func5
    (ChangeSpec.witness6 (enc := enc) (C := Try.checked) false ⟨#[], #[.string ByteArray.empty], []⟩ 8 (by kernel_rfl) (by kernel_rfl) (by kernel_rfl) (by kernel_rfl)) ?_
  intro W base args ds gs before hval0 hW hcnd hsz0 _
  have hval : ∀ (j : Nat) t v, Try.f5.params[j]? = some t → args[j]? = some v → Value.okWide Try.prog W .any base t v := hval0
  have hsz : (DataW.weightsEach Try.prog (Try.f5.params.toList ++ Rows.machineDecodesSpec.plain.varTypes Try.prog) (ds ++ gs)).all (· ≤ reachBytes) = true := hsz0
  have hW' := hW
  obtain ⟨p, q, hA0, hV, rfl, hfz, hnd⟩ := hW
  have hA : DataW.TrodAll enc Try.prog W 0 (fun _ => true) true Try.f5.params.toList args.toList ds p := hA0
  rw [Try.params5] at hA hval hsz
  obtain ⟨v0, vs0, d0, ds0, p0, q0, hargs, rfl, rfl, h0, r0⟩ := trodAll_cons hA
  obtain ⟨rfl, rfl, rfl⟩ := trodAll_nil r0
  obtain rfl : args = #[v0] := by cases args; simp_all
  obtain ⟨rfl, rfl⟩ := trodVars_none hV
  have k0 := h0
  have lt0 : ∀ x ∈ p0, x.block < W.heap.size := by obtain ⟨m, hm⟩ := k0; exact DataW.trod_lt m _ _ _ hm
  obtain ⟨a0, rfl, rfl, rfl, w0⟩ := open_string Try.underlying9 (hval 0 9 v0 rfl rfl) h0
  have z0 := sized_string hsz (j := 0) (t := 9) rfl rfl
  obtain ⟨l0, rfl⟩ : ∃ l : List UInt8, a0 = ⟨l.toArray⟩ := ⟨a0.data.toList, by simp⟩
  have y0 : l0.length ≤ 140737488351232 := by simpa [reachBytes] using z0
  clear hA0 hval0 hsz hsz0
  refine (machineDecodes_walk W l0 y0).mono fun e W' ⟨he, bel⟩ => ?_
  subst he
  exact ⟨_, rfl, _, _, _, [], _, [], hW', trodAll_mk1 (shut_bool Try.underlying4 _), (trodAll_cons_mk (Below.trod machineDecodes_laidOut (by kernel_rfl) (of_decide_eq_true (by kernel_rfl)) k0 bel lt0) trodAll_mk0), rfl, bel.frame _, fun h => by cases h⟩

theorem machineDecodes_holds : Rows.MachineDecodesSaid :=
  OpenClaim.holds_of_wide 5 Try.f5 rfl rfl rfl rfl rfl rfl rfl ⟨rfl, rfl, rfl, rfl, rfl⟩ rfl rfl rfl rfl rfl (by kernel_rfl) Try.func5 (by kernel_rfl)
    (of_decide_eq_true (by kernel_rfl)) (by unfold Func.isWrapper; first | (rw [if_pos (by decide +kernel)]; kernel_rfl) | (rw [if_neg (by decide +kernel)]; exact ⟨rfl, rfl⟩))
    (fun os started H enc _ => machineDecodes_lifted os started H enc)
#print axioms machineDecodes_holds
end Go.Proofs.Ytpbiojnmegemdac

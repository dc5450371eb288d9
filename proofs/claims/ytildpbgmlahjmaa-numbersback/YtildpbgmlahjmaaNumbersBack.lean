/- For every int n and every string s, the law NumbersBack answers true: numbers and texts are read as they were written, and what stands behind them is left. No conditions but the form of the claim itself. -/
import Derived.Test.YtildpbgmlahjmaaPicked
import Derived.SizedLaws
import Derived.OpenShut
import Derived.ShutString
import Derived.ChangeOld
namespace Go.Proofs.Ytildpbgmlahjmaa
open Go.ChangeShapes Go.WideShapes Go.ChangeAt Go.RowKit
open Go.ChangeMaps (open_string shut_string)
set_option linter.unusedVariables false
attribute [local go_sem] app_list ext_list get_list byteAt_zero

set_option maxHeartbeats 1000000 in
theorem numbersBack_walk (a0 : Int) (w0 : (Lit.int .i64 a0).wf = true) (l1 : List UInt8) (y1 : l1.length ≤ 140737488351232) (w : World) :
    Calls Try.prog 8 #[.int .i64 a0, .string ⟨l1.toArray⟩] w fun e w' => e = .returned (.bool true) ∧ Below w.heap.size w w' := by
  have hbd : -9223372036854775808 ≤ a0 ∧ a0 ≤ 9223372036854775807 := bounds_i64 w0
  clear w0
  go_enter Try.func8, Try.ntmps8
  go_wp2_with fail
  refine (picked_any _ _ _ hbd.1 hbd.2 (by omega) (by omega)).mono ?_
  rintro e w' ⟨rfl, rfl⟩
  have hk := pickN_bd a0 1073741824 (by omega)
  generalize pickN a0 1073741824 = k at *
  go_wp2_with fail
  refine (number_ok _ _ (by omega) (by omega)).mono ?_
  rintro e w1 ⟨rfl, hb1⟩
  have hlen := length_num k
  go_wp2_with fail
  refine (readNumber_any _ _ (by simp; omega) (by simp; omega)).mono ?_
  rw [valN_num k hk.1 (by omega), drop_num, if_pos (by omega)]
  rintro e w2 ⟨rfl, hb2⟩
  go_wp2_with fail
  · have ht : (l1.take 255).length ≤ 255 := List.length_take_le _ _
    generalize l1.take 255 = t at *
    refine (text_ok _ _ (by omega)).mono ?_
    rintro e w3 ⟨rfl, hb3⟩
    go_wp2_with fail
    refine (readText_ok _ _ _ (by rw [b8_len _ (by omega)]; simp) (by simp; omega)).mono ?_
    rw [take_len _ _ (by omega), drop_len _ _ (by omega)]
    rintro e w4 ⟨rfl, hb4⟩
    go_wp2_with fail
    refine (readNumber_short _ _ (by simp [numBytes])).mono ?_
    rintro e w5 ⟨rfl, hb5⟩
    go_wp2_with fail
    go_ret
    exact ⟨by simp, Below.seq (Below.seq (Below.seq (Below.seq hb1 hb2) hb3) hb4) hb5⟩
  · refine (text_ok _ _ (by omega)).mono ?_
    rintro e w3 ⟨rfl, hb3⟩
    go_wp2_with fail
    refine (readText_ok _ _ _ (by rw [b8_len _ (by omega)]; simp) (by simp; omega)).mono ?_
    rw [take_len _ _ (by omega), drop_len _ _ (by omega)]
    rintro e w4 ⟨rfl, hb4⟩
    go_wp2_with fail
    refine (readNumber_short _ _ (by simp [numBytes])).mono ?_
    rintro e w5 ⟨rfl, hb5⟩
    go_wp2_with fail
    go_ret
    exact ⟨by simp, Below.seq (Below.seq (Below.seq (Below.seq hb1 hb2) hb3) hb4) hb5⟩

theorem numbersBack_own : ownKnob Try.prog.godebug = none := by kernel_rfl
theorem numbersBack_laidOut : laidOutB Try.prog = true := by kernel_rfl

set_option maxRecDepth 100000 in
theorem numbersBack_lifted (os : Os) (started : os.Started) (H : Type) (enc : TypeId × Value → H) :
    ReturnsInHanded {} Try.checked os 8 .any (Rows.numbersBackSpec.pre6 enc Try.prog Try.f8 Rows.numbersBackRow.domain false) (Rows.numbersBackSpec.post enc Try.prog Try.f8 false true false false) := by
  refine returnsInHanded_of_change_sized (C := Try.checked) numbersBack_own started (by kernel_rfl) Try.func8
    (ChangeSpec.witness6 (enc := enc) (C := Try.checked) false ⟨#[], #[.int .i64 0, .string ByteArray.empty], []⟩ 8 (by kernel_rfl) (by kernel_rfl) (by kernel_rfl) (by kernel_rfl)) ?_
  intro W base args ds gs before hval0 hW hcnd hsz0 _
  have hval : ∀ (j : Nat) t v, Try.f8.params[j]? = some t → args[j]? = some v → Value.okWide Try.prog W .any base t v := hval0
  have hsz : (DataW.weightsEach Try.prog (Try.f8.params.toList ++ Rows.numbersBackSpec.plain.varTypes Try.prog) (ds ++ gs)).all (· ≤ reachBytes) = true := hsz0
  have hW' := hW
  obtain ⟨p, q, hA0, hV, rfl, hfz, hnd⟩ := hW
  have hA : DataW.TrodAll enc Try.prog W 0 (fun _ => true) true Try.f8.params.toList args.toList ds p := hA0
  rw [Try.params8] at hA hval hsz
  obtain ⟨v0, vs0, d0, ds0, p0, q0, hargs, rfl, rfl, h0, r0⟩ := trodAll_cons hA
  obtain ⟨v1, vs1, d1, ds1, p1, q1, rfl, rfl, rfl, h1, r1⟩ := trodAll_cons r0
  obtain ⟨rfl, rfl, rfl⟩ := trodAll_nil r1
  obtain rfl : args = #[v0, v1] := by cases args; simp_all
  obtain ⟨rfl, rfl⟩ := trodVars_none hV
  obtain ⟨a0, rfl, rfl, rfl, w0⟩ := open_int Try.underlying3 (hval 0 3 v0 rfl rfl) h0
  obtain ⟨a1, rfl, rfl, rfl, w1⟩ := open_string Try.underlying9 (hval 1 9 v1 rfl rfl) h1
  have z1 := sized_string hsz (j := 1) (t := 9) rfl rfl
  clear hA0 hval0 hsz hsz0
  obtain ⟨l1, rfl⟩ : ∃ l : List UInt8, a1 = ⟨l.toArray⟩ := ⟨a1.data.toList, by simp⟩
  have y1 : l1.length ≤ 140737488351232 := by simpa [reachBytes] using z1
  refine (numbersBack_walk a0 w0 l1 y1 W).mono fun e W' ⟨he, bel⟩ => ?_
  subst he
  exact ⟨_, rfl, _, _, _, [], [], [], hW', trodAll_mk1 (shut_bool Try.underlying4 _), (trodAll_cons_mk (shut_int Try.underlying3 w0) (trodAll_cons_mk (shut_string Try.underlying9 w1) trodAll_mk0)), rfl, bel.frame _, fun h => by cases h⟩

theorem numbersBack_holds : Rows.NumbersBackSaid :=
  OpenClaim.holds_of_wide 8 Try.f8 rfl rfl rfl rfl rfl rfl rfl ⟨rfl, rfl, rfl, rfl, rfl⟩ rfl rfl rfl rfl rfl (by kernel_rfl) Try.func8 (by kernel_rfl)
    (of_decide_eq_true (by kernel_rfl)) (by unfold Func.isWrapper; first | (rw [if_pos (by decide +kernel)]; kernel_rfl) | (rw [if_neg (by decide +kernel)]; exact ⟨rfl, rfl⟩))
    (fun os started H enc _ => numbersBack_lifted os started H enc)
#print axioms numbersBack_holds
end Go.Proofs.Ytildpbgmlahjmaa

/- The walks of the document's answers StateOf and StateFault. -/
import Derived.Test.YtpbiojnmegemdacVolRef
import Derived.Test.YtpbiojnmegemdacMachMem
import Derived.BigRegion
namespace Go.Proofs.Ytpbiojnmegemdac
open Go.RowKit
set_option linter.unusedVariables false
set_option linter.unusedSimpArgs false
attribute [local go_sem] app_list ext_list get_list byteAt_zero

theorem refMakeStrs6 (w : World) : (Instr.makeSlice 34 (.int .i64 6) (.int .i64 6)).run Try.prog w = .ok (.slice (some ⟨w.heap.size, 0, none⟩) 6 6) (w.alloc (.cells #[.string ⟨#[]⟩, .string ⟨#[]⟩, .string ⟨#[]⟩, .string ⟨#[]⟩, .string ⟨#[]⟩, .string ⟨#[]⟩] 9)) := by kernel_rfl
theorem refMakeLasts4 (w : World) : (Instr.makeSlice 38 (.int .i64 4) (.int .i64 4)).run Try.prog w = .ok (.slice (some ⟨w.heap.size, 0, none⟩) 4 4) (w.alloc (.cells #[.int .i64 0, .int .i64 0, .int .i64 0, .string ⟨#[]⟩, .int .i64 0, .int .i64 0, .int .i64 0, .string ⟨#[]⟩, .int .i64 0, .int .i64 0, .int .i64 0, .string ⟨#[]⟩, .int .i64 0, .int .i64 0, .int .i64 0, .string ⟨#[]⟩] 64)) := by kernel_rfl

theorem newSt_at {w : World} {g g' B : Nat} (h : Box w g 9 [.string ⟨#[]⟩, .string ⟨#[]⟩, .string ⟨#[]⟩, .string ⟨#[]⟩, .string ⟨#[]⟩, .string ⟨#[]⟩]) (hb : B ≤ g)
    (h' : Box w g' 64 [.int .i64 0, .int .i64 0, .int .i64 0, .string ⟨#[]⟩, .int .i64 0, .int .i64 0, .int .i64 0, .string ⟨#[]⟩, .int .i64 0, .int .i64 0, .int .i64 0, .string ⟨#[]⟩, .int .i64 0, .int .i64 0, .int .i64 0, .string ⟨#[]⟩]) (hb' : B ≤ g') :
    StNew w B (.agg #[.slice (some ⟨g, 0, none⟩) 6 6, .slice none 0 0, .slice (some ⟨g', 0, none⟩) 4 4]) newSt :=
  ⟨_, _, _, rfl, newVol_at h hb, own_box h' hb' 4 4 rfl (by decide)⟩

set_option maxHeartbeats 2000000 in
theorem stateOf_is (w : World) :
    Calls Try.prog 16 #[] w fun e w' => ∃ v', e = .returned v' ∧ StNew w' w.heap.size v' newSt ∧ Below w.heap.size w w' := by
  have k1 := refMakeStrs6
  have k2 := refMakeLasts4
  go_enter Try.func16, Try.ntmps16
  go_wp2_with fail
  go_region
  all_goals clear k1 k2
  all_goals go_wp2_with fail
  · obtain ⟨b0, b1, b2, hb⟩ := boxes3 w 40 9 64 [.slice (some ⟨w.heap.size + 1, 0, none⟩) 6 6, .slice none 0 0, .slice (some ⟨w.heap.size + 1 + 1, 0, none⟩) 4 4] [.string ⟨#[]⟩, .string ⟨#[]⟩, .string ⟨#[]⟩, .string ⟨#[]⟩, .string ⟨#[]⟩, .string ⟨#[]⟩] [.int .i64 0, .int .i64 0, .int .i64 0, .string ⟨#[]⟩, .int .i64 0, .int .i64 0, .int .i64 0, .string ⟨#[]⟩, .int .i64 0, .int .i64 0, .int .i64 0, .string ⟨#[]⟩, .int .i64 0, .int .i64 0, .int .i64 0, .string ⟨#[]⟩]
    have HV : Hid (StNew _ _ _ _) := newSt_at (B := w.heap.size) b1 (by omega) b2 (by omega)
    have HB : Hid (Below _ _ _) := hb
    clear b0 b1 b2 hb
    refine bodyPost_ret (v := .agg #[.slice (some ⟨w.heap.size + 1, 0, none⟩) 6 6, .slice none 0 0, .slice (some ⟨w.heap.size + 1 + 1, 0, none⟩) 4 4]) ?_ rfl ?_
    · clear HV HB
      simp [results, Try.results16, go_sem]
    · exact ⟨_, rfl, HV.out.drew, HB.out.drew⟩
  · obtain ⟨b0, b1, b2, hb⟩ := boxes3 w 40 64 9 [.slice (some ⟨w.heap.size + 1 + 1, 0, none⟩) 6 6, .slice none 0 0, .slice (some ⟨w.heap.size + 1, 0, none⟩) 4 4] [.int .i64 0, .int .i64 0, .int .i64 0, .string ⟨#[]⟩, .int .i64 0, .int .i64 0, .int .i64 0, .string ⟨#[]⟩, .int .i64 0, .int .i64 0, .int .i64 0, .string ⟨#[]⟩, .int .i64 0, .int .i64 0, .int .i64 0, .string ⟨#[]⟩] [.string ⟨#[]⟩, .string ⟨#[]⟩, .string ⟨#[]⟩, .string ⟨#[]⟩, .string ⟨#[]⟩, .string ⟨#[]⟩]
    have HV : Hid (StNew _ _ _ _) := newSt_at (B := w.heap.size) b2 (by omega) b1 (by omega)
    have HB : Hid (Below _ _ _) := hb
    clear b0 b1 b2 hb
    refine bodyPost_ret (v := .agg #[.slice (some ⟨w.heap.size + 1 + 1, 0, none⟩) 6 6, .slice none 0 0, .slice (some ⟨w.heap.size + 1, 0, none⟩) 4 4]) ?_ rfl ?_
    · clear HV HB
      simp [results, Try.results16, go_sem]
    · exact ⟨_, rfl, HV.out.drew, HB.out.drew⟩

/-- What StateFault has found after k lasts. -/
def lastsTo (l : List LastM) (k : Nat) : Bool := l.length == 4 && (l.take k).all (fun x => decide (0 ≤ x.num) && decide (x.num ≤ 1048576))
theorem lastsTo_next (l : List LastM) (k : Nat) (h : k < l.length) : lastsTo l (k + 1) = (lastsTo l k && (decide (0 ≤ (l.getD k zeroLast).num) && decide ((l.getD k zeroLast).num ≤ 1048576))) := by
  unfold lastsTo
  rw [List.take_succ_eq_append_getElem h, List.all_append]
  simp [List.getD, h, Bool.and_assoc]
theorem lastsTo_all (l : List LastM) (k : Nat) (h : l.length ≤ k) : lastsTo l k = lastsMay l := by
  unfold lastsTo lastsMay
  rw [List.take_of_length_le h]

set_option maxHeartbeats 2000000 in
theorem stateFault_any (S : StateM) (v : Value) (w : World) (h : StAt w v S) :
    Calls Try.prog 19 #[v] w fun e w' => e = .returned (.int .i64 (stFault S)) ∧ Below w.heap.size w w' := by
  obtain ⟨vn, vs, vl, rfl, hv, a, c, rfl, hl, hc⟩ := h
  have HV : Hid (∀ o, Calls _ _ _ _ _) := fun o => volumeFault_any S.vol (.agg #[vn, vs]) (w.alloc o) (hv.below (below_alloc w o))
  obtain ⟨F, HF⟩ : ∃ F, Hid (volFault S.vol = F) := ⟨_, rfl⟩
  rw [HF.out] at HV
  have HS : Hid (lastsTo S.lasts 0 = ((S.lasts.length : Int) == 4)) := by
    unfold Hid lastsTo
    rw [List.take_zero, List.all_nil, Bool.and_true, Bool.eq_iff_iff]
    simp
    omega
  go_enter Try.func19, Try.ntmps19
  go_wp2_with fail
  rw [← HS.out]
  clear HS
  go_loop [3, 4] (fun ok i => ∃ k : Nat, k ≤ S.lasts.length ∧ i = .int .i64 k ∧ ok = .bool (lastsTo S.lasts k)) (fun _ i => S.lasts.length - (intOf i).toNat)
  case atStart => exact ⟨0, by omega, rfl, rfl⟩
  case round =>
    obtain ⟨k, hk, rfl, rfl⟩ := hrel
    by_cases hlt : k < S.lasts.length
    · obtain ⟨b, o, rfl, c0, _⟩ := hc k hlt
      have hb := lt_of_cell c0
      have HN : Hid (lastsTo S.lasts (k + 1) = _) := lastsTo_next S.lasts k hlt
      clear hc
      generalize (S.lasts.getD k zeroLast).num = x at *
      have k1 : (k : Int) < (S.lasts.length : Int) := by omega
      have hB : lastsTo S.lasts k = true ∨ lastsTo S.lasts k = false := by cases lastsTo S.lasts k <;> simp
      rcases hB with hB | hB
      · rw [hB] at HN ⊢
        clear hB
        go_wp2_with (go_at_call 24; refine (in_any _ _ _ _).mono ?_; rintro e w1 ⟨rfl, rfl⟩)
        exact ⟨⟨k + 1, by omega, by go_num, by rw [HN.out]; rfl⟩, by simp [intOf]; omega⟩
      · rw [hB] at HN ⊢
        clear hB
        go_wp2_with fail
        exact ⟨⟨k + 1, by omega, by go_num, by rw [HN.out]; rfl⟩, by simp [intOf]; omega⟩
    · have HN : Hid (lastsTo S.lasts k = lastsMay S.lasts) := lastsTo_all S.lasts k (by omega)
      rw [HN.out]
      have hB : lastsMay S.lasts = true ∨ lastsMay S.lasts = false := by cases lastsMay S.lasts <;> simp
      rcases hB with hB | hB
      · have HR : Hid (stFault S = F) := by unfold Hid stFault; rw [hB, if_pos rfl]; exact HF.out
        rw [hB]
        clear hB hc
        go_wp2_with fail
        refine (HV.out _).mono ?_
        rintro e w1 ⟨rfl, hb1⟩
        go_wp2_with fail
        go_ret
        exact ⟨by rw [HR.out]; rfl, Below.seq (below_alloc _ _) hb1⟩
      · have HR : Hid (stFault S = 8) := by unfold Hid stFault; rw [hB]; rfl
        rw [hB]
        clear hB hc
        go_wp2_with fail
        go_ret
        exact ⟨by rw [HR.out]; rfl, below_alloc _ _⟩

end Go.Proofs.Ytpbiojnmegemdac

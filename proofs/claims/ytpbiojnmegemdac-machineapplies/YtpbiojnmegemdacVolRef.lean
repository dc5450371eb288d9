import Derived.Test.YtpbiojnmegemdacRefIn
import Derived.Test.YtpbiojnmegemdacVolMem
import Derived.BigQuiet
import Derived.Deep.QuietTactic
namespace Go.Proofs.Ytpbiojnmegemdac
open Go.RowKit
set_option linter.unusedVariables false
attribute [local go_sem] app_list ext_list get_list byteAt_zero

set_option maxHeartbeats 1000000 in
theorem opFaultR_any (o : OpM) (w : World) (hl : o.data.length ≤ 281474976710656) :
    Calls Try.prog 25 #[.agg #[.int .i64 o.kind, .int .i64 o.place, .int .i64 o.snap, .string ⟨o.data.toArray⟩]] w fun e w' => e = .returned (.int .i64 (opFault o)) ∧ Below w.heap.size w w' := by
  obtain ⟨k, p, s, d⟩ := o
  have hd : d = [] ∨ ∃ c r, d = c :: r := by cases d; exact Or.inl rfl; exact Or.inr ⟨_, _, rfl⟩
  rcases hd with rfl | ⟨c, r, rfl⟩
  all_goals
    go_enter Try.func25, Try.ntmps25
    go_wp2_with (go_at_call 24; refine (in_any _ _ _ _).mono ?_; rintro e w' ⟨rfl, rfl⟩)
  all_goals
    go_ret
    refine ⟨ret_eq (congrArg (Value.int .i64) ?_), below_alloc _ _⟩
    show _ = opFaultN _ _ _ _
    simp only [List.length_nil, List.length_cons, Bool.not_eq_true', Bool.not_eq_false', decide_eq_true_eq, decide_eq_false_iff_not, beq_iff_eq, bne_iff_ne, ne_eq, beq_eq_false_iff_ne, bne_eq_false_iff_eq] at *
    unfold opFaultN
    repeat' split
    all_goals first | rfl | (exfalso; omega)

set_option maxHeartbeats 1000000 in
theorem sectorsMay_any (x : List (List UInt8)) (v : Value) (w : World) (hx : Strs w v x) :
    Calls Try.prog 51 #[v] w fun e w' => e = .returned (.bool (secMay x)) ∧ w' = w := by
  obtain ⟨a, c, rfl, hlx, hcx⟩ := hx
  go_enter Try.func51, Try.ntmps51
  go_wp2
  go_loop [3] (fun i => ∃ k : Nat, k ≤ x.length ∧ i = .int .i64 k ∧ (x.take k).all (fun s => decide (s.length ≤ 8)) = true) (fun i => x.length - (intOf i).toNat)
  case atStart => exact ⟨0, by omega, rfl, rfl⟩
  case round =>
    obtain ⟨k, hk, rfl, he⟩ := hrel
    have He : Hid ((x.take k).all (fun s => decide (s.length ≤ 8)) = true) := he
    clear he
    by_cases hlt : k < x.length
    · obtain ⟨b, o, rfl, h1, h2⟩ := hcx k hlt
      have hg : x.getD k [] = x[k] := by simp [List.getD, hlt]
      by_cases e : (x.getD k []).length ≤ 8
      · have HE : Hid ((x.take (k + 1)).all (fun s => decide (s.length ≤ 8)) = true) := by
          unfold Hid
          rw [List.take_succ_eq_append_getElem hlt, List.all_append, He.out, ← hg]
          simpa using e
        clear hg hcx
        generalize x.getD k [] = s at *
        go_wp2
        exact ⟨⟨k + 1, by omega, by go_num, HE.out⟩, by simp [intOf]; omega⟩
      · have HE : Hid (secMay x = false) := by
          unfold Hid secMay
          have : x.all (fun s => decide (s.length ≤ 8)) = false := by
            apply List.all_eq_false.2
            exact ⟨x[k], List.getElem_mem hlt, by rw [← hg]; simpa using e⟩
          rw [this]; rfl
        clear hg hcx
        generalize x.getD k [] = s at *
        go_wp2
        go_ret
        exact ⟨by rw [HE.out]; rfl, rfl⟩
    · have HE : Hid (secMay x = ((x.length : Int) == 6)) := by
        have := He.out
        rw [List.take_of_length_le (by omega)] at this
        unfold Hid secMay
        rw [this, Bool.true_and, Bool.eq_iff_iff]
        simp
        omega
      go_wp2
      go_ret
      exact ⟨by rw [HE.out]; rfl, rfl⟩

set_option maxHeartbeats 1000000 in
theorem volumeFault_any (V : VolM) (v : Value) (w : World) (h : VolAt w v V) :
    Calls Try.prog 38 #[v] w fun e w' => e = .returned (.int .i64 (volFault V)) ∧ Below w.heap.size w w' := by
  obtain ⟨vn, vs, rfl, hn, hs⟩ := h
  obtain ⟨a, c, rfl, hla, hca⟩ := hs
  have hN : secMay V.now = true ∨ secMay V.now = false := by cases secMay V.now <;> simp
  rcases hN with hN | hN
  all_goals
    have HS : Hid (volTo V 0 = (secMay V.now && decide ((V.snaps.length : Int) ≤ 3))) := by simp [Hid, volTo]
    rw [hN] at HS
    go_enter Try.func38, Try.ntmps38
    go_wp2_with fail
    refine (sectorsMay_any _ _ _ (by exact hn.below (below_alloc _ _))).mono ?_
    rintro e w1 ⟨rfl, rfl⟩
    rw [hN]
    go_wp2_with fail
    clear hN
    go_loop [3, 4] (fun ok i => ∃ k : Nat, k ≤ V.snaps.length ∧ i = .int .i64 k ∧ ok = .bool (volTo V k)) (fun _ i => V.snaps.length - (intOf i).toNat)
    case atStart => exact ⟨0, by omega, rfl, by rw [HS.out]; rfl⟩
    case round =>
      clear HS
      obtain ⟨k, hk, rfl, rfl⟩ := hrel
      by_cases hlt : k < V.snaps.length
      · obtain ⟨b, o, u, rfl, h1, h2⟩ := hca k hlt
        have hb := lt_of_cell h1
        have h3 := h2.below (below_alloc w (Obj.cells #[vn, Value.slice (some ⟨b, o, none⟩) V.snaps.length c] 37))
        have HN : Hid (volTo V (k + 1) = _) := volTo_next V k hlt
        clear hca h2
        generalize V.snaps.getD k [] = s at *
        have hB : volTo V k = true ∨ volTo V k = false := by cases volTo V k <;> simp
        rcases hB with hB | hB
        · rw [hB] at HN ⊢
          go_wp2_with (go_at_call 51; refine (sectorsMay_any _ _ _ h3).mono ?_; rintro e w1 ⟨rfl, rfl⟩)
          exact ⟨⟨k + 1, by omega, by go_num, by rw [HN.out]; rfl⟩, by simp [intOf]; omega⟩
        · rw [hB] at HN ⊢
          go_wp2_with fail
          exact ⟨⟨k + 1, by omega, by go_num, by rw [HN.out]; rfl⟩, by simp [intOf]; omega⟩
      · have HN : Hid (volTo V k = volMay V) := volTo_all V k (by omega)
        rw [HN.out]
        have hB : volMay V = true ∨ volMay V = false := by cases volMay V <;> simp
        rcases hB with hB | hB
        · have HF : Hid (volFault V = 0) := by unfold Hid volFault; rw [hB]; rfl
          rw [hB]
          clear hB
          go_wp2_with fail
          go_ret
          exact ⟨by rw [HF.out]; rfl, below_alloc _ _⟩
        · have HF : Hid (volFault V = 8) := by unfold Hid volFault; rw [hB]; rfl
          rw [hB]
          clear hB
          go_wp2_with fail
          go_ret
          exact ⟨by rw [HF.out]; rfl, below_alloc _ _⟩

end Go.Proofs.Ytpbiojnmegemdac

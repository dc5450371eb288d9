/- The program's own replica.Leader and replica.Leads; the document's LeadsNow. -/
import Derived.Test.YtohehhpccbaclafReplMem
import Derived.Deep.DeepCutAuto
import Derived.BigQuiet
import Derived.Deep.QuietTactic
namespace Go.Proofs.Ytohehhpccbaclaf
open Go.RowKit
set_option linter.unusedVariables false
set_option linter.unusedSimpArgs false

theorem leader_any (view : Int) (w : World) : Calls Try.prog 15 #[.int .i64 view] w fun e w' => e = .returned (.int .i64 (view.tmod 3)) ∧ w' = w := by
  go_enter Try.func15, Try.ntmps15
  go_wp2
  go_ret
  exact ⟨by simp, rfl⟩

set_option maxHeartbeats 1000000 in
theorem leads_any (R : ReplM) (v : Value) (w : World) (h : ReplAt w v R) :
    Calls Try.prog 16 #[v] w fun e w' => e = .returned (.bool (leads R)) ∧ Below w.heap.size w w' := by
  obtain ⟨vl, vh, vw, vg, vn, rfl, hl, hh, hw, hg, hn⟩ := h
  have HL : Hid (leads R = (R.kept.calm && decide (R.kept.view.tmod 3 = R.me))) := rfl
  generalize leads R = X at *
  obtain ⟨me, ⟨vi, nm, cm, l, ct⟩, hav, wants, gives, given⟩ := R
  simp only [replCells] at *
  have b0 := Box.new w 29 [.int .i64 me, .int .i64 vi, .int .i64 nm, .bool cm, vl, .int .i64 ct, vh, vw, vg, vn]
  have HB : Hid (Below w.heap.size w _) := below_alloc w (.cells #[.int .i64 me, .int .i64 vi, .int .i64 nm, .bool cm, vl, .int .i64 ct, vh, vw, vg, vn] 29)
  obtain ⟨w0, hw0⟩ : ∃ w0, w0 = w.alloc (.cells #[.int .i64 me, .int .i64 vi, .int .i64 nm, .bool cm, vl, .int .i64 ct, vh, vw, vg, vn] 29) := ⟨_, rfl⟩
  have HLD : Hid (∀ W, Calls _ _ _ W _) := fun W => leader_any vi W
  clear hl hh hw hg hn
  go_enter Try.func16, Try.ntmps16
  go_upto_region 1 with fail
  rw [← hw0] at b0 HB ⊢
  clear hw0
  have x0 := b0.cell 0 _ rfl
  have x1 := b0.cell 1 _ rfl
  have x3 := b0.cell 3 _ rfl
  clear b0
  cases cm
  · go_quiet (fail)
    go_wp2_with fail
    go_ret
    exact ⟨by rw [HL.out]; rfl, Below.far HB.out (below_drew_n _ _)⟩
  · go_quiet (first | (go_at_call 15; refine (HLD.out _).mono ?_; rintro e w' ⟨rfl, rfl⟩; exact ⟨rfl, _, rfl⟩))
    go_wp2_with fail
    go_ret
    exact ⟨by rw [HL.out]; simp; rfl, Below.far HB.out (below_drew_n _ _)⟩

set_option maxHeartbeats 1000000 in
theorem leadsNow_any (R : ReplM) (v : Value) (w : World) (h : ReplAt w v R) :
    Calls Try.prog 17 #[v] w fun e w' => e = .returned (.bool (leads R)) ∧ Below w.heap.size w w' := by
  obtain ⟨vl, vh, vw, vg, vn, rfl, hl, hh, hw, hg, hn⟩ := h
  have HL : Hid (leads R = (R.kept.calm && decide (R.kept.view.tmod 3 = R.me))) := rfl
  generalize leads R = X at *
  obtain ⟨me, ⟨vi, nm, cm, l, ct⟩, hav, wants, gives, given⟩ := R
  simp only [replCells] at *
  have HB : Hid (Below w.heap.size w _) := below_alloc w (.cells #[.int .i64 me, .int .i64 vi, .int .i64 nm, .bool cm, vl, .int .i64 ct, vh, vw, vg, vn] 29)
  clear hl hh hw hg hn
  cases cm
  · go_enter Try.func17, Try.ntmps17
    go_wp2_with fail
    go_ret
    exact ⟨by rw [HL.out]; rfl, HB.out⟩
  · go_enter Try.func17, Try.ntmps17
    go_wp2_with fail
    go_ret
    exact ⟨by rw [HL.out]; simp; rfl, HB.out⟩

end Go.Proofs.Ytohehhpccbaclaf

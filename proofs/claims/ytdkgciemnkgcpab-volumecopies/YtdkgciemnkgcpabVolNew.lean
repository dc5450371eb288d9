/- The walk of the document's answer StateOf: an empty volume. -/
import Derived.Test.YtdkgciemnkgcpabVolMem
namespace Go.Proofs.Ytdkgciemnkgcpab
open Go.RowKit
set_option linter.unusedVariables false
set_option linter.unusedSimpArgs false
attribute [local go_sem] app_list ext_list get_list byteAt_zero

theorem makeStrs6 (w : World) : (Instr.makeSlice 22 (.int .i64 6) (.int .i64 6)).run Try.prog w = .ok (.slice (some ⟨w.heap.size, 0, none⟩) 6 6) (w.alloc (.cells #[.string ⟨#[]⟩, .string ⟨#[]⟩, .string ⟨#[]⟩, .string ⟨#[]⟩, .string ⟨#[]⟩, .string ⟨#[]⟩] 9)) := by kernel_rfl
theorem makeLasts4 (w : World) : (Instr.makeSlice 27 (.int .i64 4) (.int .i64 4)).run Try.prog w = .ok (.slice (some ⟨w.heap.size, 0, none⟩) 4 4) (w.alloc (.cells #[.int .i64 0, .int .i64 0, .int .i64 0, .string ⟨#[]⟩, .int .i64 0, .int .i64 0, .int .i64 0, .string ⟨#[]⟩, .int .i64 0, .int .i64 0, .int .i64 0, .string ⟨#[]⟩, .int .i64 0, .int .i64 0, .int .i64 0, .string ⟨#[]⟩] 76)) := by kernel_rfl

set_option maxHeartbeats 2000000 in
theorem stateOf_any (w : World) :
    Calls Try.prog 9 #[] w fun e w' => ∃ a b, e = .returned (.agg #[.slice (some ⟨a, 0, none⟩) 6 6, .slice none 0 0, .slice (some ⟨b, 0, none⟩) 4 4]) ∧ VolNew w' w.heap.size (.agg #[.slice (some ⟨a, 0, none⟩) 6 6, .slice none 0 0]) newVol ∧ Below w.heap.size w w' := by
  have k1 := makeStrs6
  have k2 := makeLasts4
  go_enter Try.func9, Try.ntmps9
  go_wp2_with fail
  go_region
  all_goals clear k1 k2
  all_goals go_wp2_with fail
  · obtain ⟨b0, b1, b2, hb⟩ := boxes3 w 29 9 76 [.slice (some ⟨w.heap.size + 1, 0, none⟩) 6 6, .slice none 0 0, .slice (some ⟨w.heap.size + 1 + 1, 0, none⟩) 4 4] [.string ⟨#[]⟩, .string ⟨#[]⟩, .string ⟨#[]⟩, .string ⟨#[]⟩, .string ⟨#[]⟩, .string ⟨#[]⟩] [.int .i64 0, .int .i64 0, .int .i64 0, .string ⟨#[]⟩, .int .i64 0, .int .i64 0, .int .i64 0, .string ⟨#[]⟩, .int .i64 0, .int .i64 0, .int .i64 0, .string ⟨#[]⟩, .int .i64 0, .int .i64 0, .int .i64 0, .string ⟨#[]⟩]
    have HV : Hid (VolNew _ _ _ _) := newVol_at b1 (B := w.heap.size) (by omega)
    have HB : Hid (Below _ _ _) := hb
    clear b0 b1 b2 hb
    refine bodyPost_ret (v := .agg #[.slice (some ⟨w.heap.size + 1, 0, none⟩) 6 6, .slice none 0 0, .slice (some ⟨w.heap.size + 1 + 1, 0, none⟩) 4 4]) ?_ rfl ?_
    · clear HV HB
      simp [results, Try.results9, go_sem]
    · exact ⟨_, _, rfl, HV.out.drew, HB.out.drew⟩
  · obtain ⟨b0, b1, b2, hb⟩ := boxes3 w 29 76 9 [.slice (some ⟨w.heap.size + 1 + 1, 0, none⟩) 6 6, .slice none 0 0, .slice (some ⟨w.heap.size + 1, 0, none⟩) 4 4] [.int .i64 0, .int .i64 0, .int .i64 0, .string ⟨#[]⟩, .int .i64 0, .int .i64 0, .int .i64 0, .string ⟨#[]⟩, .int .i64 0, .int .i64 0, .int .i64 0, .string ⟨#[]⟩, .int .i64 0, .int .i64 0, .int .i64 0, .string ⟨#[]⟩] [.string ⟨#[]⟩, .string ⟨#[]⟩, .string ⟨#[]⟩, .string ⟨#[]⟩, .string ⟨#[]⟩, .string ⟨#[]⟩]
    have HV : Hid (VolNew _ _ _ _) := newVol_at b2 (B := w.heap.size) (by omega)
    have HB : Hid (Below _ _ _) := hb
    clear b0 b1 b2 hb
    refine bodyPost_ret (v := .agg #[.slice (some ⟨w.heap.size + 1 + 1, 0, none⟩) 6 6, .slice none 0 0, .slice (some ⟨w.heap.size + 1, 0, none⟩) 4 4]) ?_ rfl ?_
    · clear HV HB
      simp [results, Try.results9, go_sem]
    · exact ⟨_, _, rfl, HV.out.drew, HB.out.drew⟩
end Go.Proofs.Ytdkgciemnkgcpab

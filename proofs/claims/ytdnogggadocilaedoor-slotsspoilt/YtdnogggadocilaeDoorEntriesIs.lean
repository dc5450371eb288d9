/- The laws' function entries: some list of entries, each of which is read. -/
import Derived.Test.YtdnogggadocilaeDoorEntriesWalk
namespace Go.Proofs.YtdnogggadocilaeDoor
open Go.RowKit
set_option linter.unusedVariables false
set_option linter.unusedSimpArgs false

theorem entries_is (q : List ReqM) (v : Value) (w : World) (h : ReqsAt w v q) (hok : ∀ r ∈ q, reqFault r = 0) :
    ∃ E : List (List UInt8), E = q.map entryB ∧ E.length = q.length ∧ (∀ s ∈ E, decE s = 0) ∧ (∀ s ∈ E, s.length ≤ 40) ∧
      Calls Tryd.prog 13 #[v] w fun e w' => ∃ v', e = .returned v' ∧ w'.ownsRow w.heap.size 9 1 v' E.length (E.map enc) ∧ Below w.heap.size w w' := by
  refine ⟨q.map entryB, rfl, by simp, fun s hs => ?_, fun s hs => ?_, ?_⟩
  · obtain ⟨r, hr, rfl⟩ := List.mem_map.1 hs
    exact (dec_enc r (hok r hr)).1
  · obtain ⟨r, hr, rfl⟩ := List.mem_map.1 hs
    have := entryB_len r
    have := (opMay_of r.op (reqMay_of r (hok r hr)).2.2).2.2.2
    omega
  · have := entries_any q v w h hok
    rw [List.length_map]
    exact this

end Go.Proofs.YtdnogggadocilaeDoor

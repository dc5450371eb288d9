/- KeptOf, whole; what it tells fits. -/
import Derived.Test.YtdnogggadocilaeKdecRef
namespace Go.Proofs.Ytdnogggadocilae
open Go.RowKit
set_option linter.unusedVariables false

theorem keptOf_any (s : List UInt8) (w : World) (hl : s.length ≤ 281474976710656) :
    Calls Try.prog 8 #[.string ⟨s.toArray⟩] w fun e w' => ∃ v', e = .returned (.tuple #[v', .int .i64 (kdecG s), .int .i64 (kdecE s)]) ∧ KeptNew w' w.heap.size v' (kdecK s) ∧ Below w.heap.size w w' := by
  by_cases h : 4000 < s.length ∨ s.length < 4
  · exact keptOf_size s w hl h
  · exact keptOf_rest s w (by omega) (by omega)

end Go.Proofs.Ytdnogggadocilae

/- How operations and replies lie in memory. -/
import Derived.Test.YtdnogggadocilaeDoorBase
import Derived.Test.YtdnogggadocilaeDoorVolMath
namespace Go.Proofs.YtdnogggadocilaeDoor
open Go.RowKit
set_option linter.unusedVariables false
set_option linter.unusedSimpArgs false

def opCells (o : OpM) : List Value := [.int .i64 o.kind, .int .i64 o.place, .int .i64 o.snap, .string ⟨o.data.toArray⟩]

def repVal (r : ReplyM) : Value := .agg #[.int .i64 r.code, .int .i64 r.n, .string ⟨r.data.toArray⟩]

end Go.Proofs.YtdnogggadocilaeDoor

/- How operations and replies lie in memory. -/
import Derived.Test.YtohehhpccbaclafBase
import Derived.Test.YtohehhpccbaclafVolMath
namespace Go.Proofs.Ytohehhpccbaclaf
open Go.RowKit
set_option linter.unusedVariables false
set_option linter.unusedSimpArgs false

def opCells (o : OpM) : List Value := [.int .i64 o.kind, .int .i64 o.place, .int .i64 o.snap, .string ⟨o.data.toArray⟩]

def repVal (r : ReplyM) : Value := .agg #[.int .i64 r.code, .int .i64 r.n, .string ⟨r.data.toArray⟩]

end Go.Proofs.Ytohehhpccbaclaf

/- How requests lie in memory. -/
import Derived.Test.YtohehhpccbaclafMachMath
import Derived.Test.YtohehhpccbaclafOpMem
namespace Go.Proofs.Ytohehhpccbaclaf
open Go.RowKit
set_option linter.unusedVariables false
set_option linter.unusedSimpArgs false

def reqCells (r : ReqM) : List Value := [.int .i64 r.client, .int .i64 r.num, .int .i64 r.op.kind, .int .i64 r.op.place, .int .i64 r.op.snap, .string ⟨r.op.data.toArray⟩]

def reqVal (r : ReqM) : Value := .agg #[.int .i64 r.client, .int .i64 r.num, .int .i64 r.op.kind, .int .i64 r.op.place, .int .i64 r.op.snap, .string ⟨r.op.data.toArray⟩]

end Go.Proofs.Ytohehhpccbaclaf

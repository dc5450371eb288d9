/- What the program says of the type api.Last. -/
import Derived.Test.YtpbiojnmegemdadBase
namespace Go.Proofs.Ytpbiojnmegemdad
open Go.RowKit

theorem infoLast : Try.prog.info? 40 = some Try.t40 := by kernel_rfl
theorem zeroLastV : Try.t40.zero = some (.agg #[.int .i64 0, .int .i64 0, .int .i64 0, .string ⟨#[]⟩]) := by kernel_rfl
theorem sizeLast : Try.t40.size = 4 := by kernel_rfl
theorem bytesLast : Try.t40.bytes = 40 := by kernel_rfl

end Go.Proofs.Ytpbiojnmegemdad

/- What the program says of the type api.Last. -/
import Derived.Test.YtpbiojnmegemdacBase
namespace Go.Proofs.Ytpbiojnmegemdac
open Go.RowKit

theorem infoLast : Try.prog.info? 64 = some Try.t64 := by kernel_rfl
theorem zeroLastV : Try.t64.zero = some (.agg #[.int .i64 0, .int .i64 0, .int .i64 0, .string ⟨#[]⟩]) := by kernel_rfl
theorem sizeLast : Try.t64.size = 4 := by kernel_rfl
theorem bytesLast : Try.t64.bytes = 40 := by kernel_rfl

end Go.Proofs.Ytpbiojnmegemdac

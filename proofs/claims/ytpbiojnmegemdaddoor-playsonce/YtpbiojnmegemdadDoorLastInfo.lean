/- What the program says of the type api.Last. -/
import Derived.Test.YtpbiojnmegemdadDoorBase
namespace Go.Proofs.YtpbiojnmegemdadDoor
open Go.RowKit

theorem infoLast : Tryd.prog.info? 51 = some Tryd.t51 := by kernel_rfl
theorem zeroLastV : Tryd.t51.zero = some (.agg #[.int .i64 0, .int .i64 0, .int .i64 0, .string ⟨#[]⟩]) := by kernel_rfl
theorem sizeLast : Tryd.t51.size = 4 := by kernel_rfl
theorem bytesLast : Tryd.t51.bytes = 40 := by kernel_rfl

end Go.Proofs.YtpbiojnmegemdadDoor

/- What the program's Play answers, beside what the document's answer is. -/
import Derived.Test.YtpbiojnmegemdadPlayRef
import Derived.Test.YtpbiojnmegemdadSameState
import Derived.Test.YtpbiojnmegemdadStateRead
import Derived.Test.YtpbiojnmegemdadMachGoPlay
namespace Go.Proofs.Ytpbiojnmegemdad
end Go.Proofs.Ytpbiojnmegemdad

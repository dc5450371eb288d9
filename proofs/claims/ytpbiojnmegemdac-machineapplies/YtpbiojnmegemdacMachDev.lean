/- What the program's Apply answers, beside what the document's answer is. -/
import Derived.Test.YtpbiojnmegemdacAppRef
import Derived.Test.YtpbiojnmegemdacSameState
import Derived.Test.YtpbiojnmegemdacStateRead
import Derived.Test.YtpbiojnmegemdacMachGoApply
namespace Go.Proofs.Ytpbiojnmegemdac
end Go.Proofs.Ytpbiojnmegemdac

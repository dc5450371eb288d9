/- What the program's package machine answers, beside the walk of the laws' Requests. -/
import Derived.Test.YtdnogggadocilaeDoorReqsWalk
import Derived.Test.YtdnogggadocilaeDoorMachGoEnc
import Derived.Test.YtdnogggadocilaeDoorMachGoDec
namespace Go.Proofs.YtdnogggadocilaeDoor
end Go.Proofs.YtdnogggadocilaeDoor

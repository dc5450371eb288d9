/- What the program's package machine answers, beside the walk of the laws' Requests. -/
import Derived.Test.YtpbiojnmegemdadDoorReqsWalk
import Derived.Test.YtpbiojnmegemdadDoorMachGoEnc
import Derived.Test.YtpbiojnmegemdadDoorMachGoDec
namespace Go.Proofs.YtpbiojnmegemdadDoor
end Go.Proofs.YtpbiojnmegemdadDoor

/- The program's contracts, beside the volumes that stay. -/
import Derived.Test.YtdkgciemnkgcpabDoorVolGoDo3
import Derived.Test.YtdkgciemnkgcpabDoorKeepVol

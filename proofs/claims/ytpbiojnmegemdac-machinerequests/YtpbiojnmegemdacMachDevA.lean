/- What the program's package machine answers, beside what the document's answer is. -/
import Derived.Test.YtpbiojnmegemdacEncRef
import Derived.Test.YtpbiojnmegemdacDecRef
import Derived.Test.YtpbiojnmegemdacStateRef
import Derived.Test.YtpbiojnmegemdacSameState
import Derived.Test.YtpbiojnmegemdacStateRead
import Derived.Test.YtpbiojnmegemdacMachGoEnc
import Derived.Test.YtpbiojnmegemdacMachGoDec
import Derived.Test.YtpbiojnmegemdacMachGoSt

/- The program's contracts, beside the walks of the document's answers. -/
import Derived.Test.YtdkgciemnkgcpabVolGoDo3
import Derived.Test.YtdkgciemnkgcpabVolDid2
import Derived.Test.YtdkgciemnkgcpabVolNew
import Derived.Test.YtdkgciemnkgcpabSame

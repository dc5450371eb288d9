/- What stage.Check answers, beside what the document's answer is. -/
import Derived.Test.YtdnogggadociladKeptGo
import Derived.Test.YtdnogggadociladKeptRef
import Derived.Test.YtdnogggadociladKeptRead
namespace Go.Proofs.Ytdnogggadocilad
end Go.Proofs.Ytdnogggadocilad

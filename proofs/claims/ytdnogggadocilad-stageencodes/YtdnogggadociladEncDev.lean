/- What stage.Encode answers, beside what the document's answer is. -/
import Derived.Test.YtdnogggadociladKencGo
import Derived.Test.YtdnogggadociladKencRef
import Derived.Test.YtdnogggadociladKeptRead
namespace Go.Proofs.Ytdnogggadocilad
end Go.Proofs.Ytdnogggadocilad

/- What stage.New answers, beside what the document's answer is. -/
import Derived.Test.YtdnogggadocilaeSlotsGo
import Derived.Test.YtdnogggadocilaeSlotsRef
import Derived.Test.YtdnogggadocilaeSameTx
import Derived.Test.YtdnogggadocilaeKeptRead
namespace Go.Proofs.Ytdnogggadocilae
end Go.Proofs.Ytdnogggadocilae

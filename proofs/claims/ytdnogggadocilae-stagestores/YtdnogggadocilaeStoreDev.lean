/- What stage.Store answers, beside what the document's answer is. -/
import Derived.Test.YtdnogggadocilaeStoreGo
import Derived.Test.YtdnogggadocilaeStoreRef
import Derived.Test.YtdnogggadocilaeSameTx
import Derived.Test.YtdnogggadocilaeKeptRead
namespace Go.Proofs.Ytdnogggadocilae
end Go.Proofs.Ytdnogggadocilae

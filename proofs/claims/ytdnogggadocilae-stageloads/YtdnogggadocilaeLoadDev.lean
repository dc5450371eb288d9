/- What stage.Load answers, beside what the document's answer is. -/
import Derived.Test.YtdnogggadocilaeLoadGo
import Derived.Test.YtdnogggadocilaeLoadRef
import Derived.Test.YtdnogggadocilaeKeptSame
import Derived.Test.YtdnogggadocilaeKeptRead
namespace Go.Proofs.Ytdnogggadocilae
end Go.Proofs.Ytdnogggadocilae

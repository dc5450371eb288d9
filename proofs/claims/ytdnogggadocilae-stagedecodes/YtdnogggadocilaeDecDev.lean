/- What stage.Decode answers, beside what the document's answer is. -/
import Derived.Test.YtdnogggadocilaeKdecAll
import Derived.Test.YtdnogggadocilaeKdecFit
import Derived.Test.YtdnogggadocilaeKdecGo3
import Derived.Test.YtdnogggadocilaeKeptSame
import Derived.Test.YtdnogggadocilaeKeptRead
namespace Go.Proofs.Ytdnogggadocilae
end Go.Proofs.Ytdnogggadocilae

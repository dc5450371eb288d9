/- What stage.Copy answers. -/
import Derived.Test.YtdnogggadociladKeptDup
import Derived.Test.YtdnogggadociladKeptSame
import Derived.Test.YtdnogggadociladKeptRead
namespace Go.Proofs.Ytdnogggadocilad
end Go.Proofs.Ytdnogggadocilad

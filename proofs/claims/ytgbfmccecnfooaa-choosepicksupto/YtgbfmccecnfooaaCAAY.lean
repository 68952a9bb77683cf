/- Sealed messages: vote.withSig. -/
import Derived.Test.YtgbfmccecnfooaaCAAT
import Derived.Deep.MidRow
set_option linter.unusedSimpArgs false
set_option linter.unusedVariables false
namespace Go.Proofs.Ytgbfmccecnfooaa
open Go.RowKit Oct
end Go.Proofs.Ytgbfmccecnfooaa

/- Sealed messages: vote.withSig. -/
import Derived.Test.YtjloehkolnjnhaaDoorXNBG
set_option linter.unusedSimpArgs false
set_option linter.unusedVariables false
namespace Go.Proofs.YtjloehkolnjnhaaDoor
open Go.RowKit Oct
end Go.Proofs.YtjloehkolnjnhaaDoor

/- Sealed messages: what is sealed, in which domain; a message with another signature. -/
import Derived.Test.YtjloehkolnjnhaaDoorXNAY
import Derived.Deep.MidRow
set_option linter.unusedSimpArgs false
set_option linter.unusedVariables false
namespace Go.Proofs.YtjloehkolnjnhaaDoor
open Go.RowKit Oct
end Go.Proofs.YtjloehkolnjnhaaDoor

/- Records' cells, where no writer of messages is about (M3, E1 say it else). -/
import Derived.Test.YtjloehkolnjnhaaDoorXNAY
import Derived.Test.YtjloehkolnjnhaaDoorXNAU
set_option linter.unusedVariables false
namespace Go.Proofs.YtjloehkolnjnhaaDoor
open Go.RowKit Oct
end Go.Proofs.YtjloehkolnjnhaaDoor

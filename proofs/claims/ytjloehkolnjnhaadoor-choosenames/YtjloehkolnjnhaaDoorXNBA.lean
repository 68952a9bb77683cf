/- The walks over the document's comparisons: votes. -/
import Derived.Test.YtjloehkolnjnhaaDoorXNAT
import Derived.Deep.QuietTactic
import Derived.BigQuiet
set_option linter.unusedSimpArgs false
set_option linter.unusedVariables false
namespace Go.Proofs.YtjloehkolnjnhaaDoor
open Go.RowKit Oct
end Go.Proofs.YtjloehkolnjnhaaDoor

/- The walks over the document's comparisons: votes. -/
import Derived.Test.YtjloehkolnjnhabXKAR
import Derived.Deep.QuietTactic
import Derived.BigQuiet
set_option linter.unusedSimpArgs false
set_option linter.unusedVariables false
namespace Go.Proofs.Ytjloehkolnjnhab
open Go.RowKit Oct
end Go.Proofs.Ytjloehkolnjnhab

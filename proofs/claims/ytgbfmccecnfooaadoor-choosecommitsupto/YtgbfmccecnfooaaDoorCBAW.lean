/- The walks over the document's comparisons: votes. -/
import Derived.Test.YtgbfmccecnfooaaDoorCBAO
import Derived.Test.YtgbfmccecnfooaaDoorCBAQ
import Derived.Deep.QuietTactic
import Derived.BigQuiet
set_option linter.unusedSimpArgs false
set_option linter.unusedVariables false
namespace Go.Proofs.YtgbfmccecnfooaaDoor
section
open Go.RowKit Oct
end
section
open Go.RowKit Oct
end
end Go.Proofs.YtgbfmccecnfooaaDoor

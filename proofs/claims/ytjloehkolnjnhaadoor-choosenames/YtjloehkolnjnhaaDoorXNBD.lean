/- The walks over package msg: the fields of kinds; is there nothing in a field? (Laid by mk5f.py.) -/
import Derived.Test.YtjloehkolnjnhaaDoorXNAW
import Derived.Test.YtjloehkolnjnhaaDoorXNAZ
set_option linter.unusedVariables false
namespace Go.Proofs.YtjloehkolnjnhaaDoor
open Go.RowKit Oct
end Go.Proofs.YtjloehkolnjnhaaDoor

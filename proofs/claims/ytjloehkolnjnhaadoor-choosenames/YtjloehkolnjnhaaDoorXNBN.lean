/- The walks over package msg: a field written. (Laid by mk5f.py.) -/
import Derived.Test.YtjloehkolnjnhaaDoorXNBE
import Derived.Test.YtjloehkolnjnhaaDoorXNAW
set_option linter.unusedSimpArgs false
set_option linter.unusedVariables false
namespace Go.Proofs.YtjloehkolnjnhaaDoor
section
open Go.RowKit Oct
end
section
open Go.RowKit Oct
end
end Go.Proofs.YtjloehkolnjnhaaDoor

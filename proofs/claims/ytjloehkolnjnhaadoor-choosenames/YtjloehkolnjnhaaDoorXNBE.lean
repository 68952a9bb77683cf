/- The walks over package msg: preps, lists of numbers, of requests, of preps written. (Laid by mk5w.py.) -/
import Derived.Test.YtjloehkolnjnhaaDoorXNAZ
set_option linter.unusedSimpArgs false
set_option linter.unusedVariables false
namespace Go.Proofs.YtjloehkolnjnhaaDoor
open Go.RowKit Oct
end Go.Proofs.YtjloehkolnjnhaaDoor

/- The walks over package sha and its reference: turns of a word. -/
import Derived.Test.YtjloehkolnjnhaaDoorXNAR
import Derived.Test.YtjloehkolnjnhaaDoorXNAC
import Derived.Laws.Shifts
namespace Go.Proofs.YtjloehkolnjnhaaDoor
open Go.RowKit Oct Sha
end Go.Proofs.YtjloehkolnjnhaaDoor

/- The walks over package sha: what a hash wants besides rows. -/
import Derived.Test.YtjloehkolnjnhaaDoorXNAX
import Derived.Test.YtjloehkolnjnhaaDoorXNAO
import Derived.BigQuiet
import Derived.Deep.QuietTactic
namespace Go.Proofs.YtjloehkolnjnhaaDoor
open Go.RowKit Oct Sha
variable {P : Program}
end Go.Proofs.YtjloehkolnjnhaaDoor

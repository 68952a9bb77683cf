/- sha.step. -/
import Derived.Test.YtjloehkolnjnhaaDoorXNBB
namespace Go.Proofs.YtjloehkolnjnhaaDoor
open Go.RowKit Oct Sha
end Go.Proofs.YtjloehkolnjnhaaDoor

/- The walks over lists of texts: packing. -/
import Derived.Test.YtjloehkolnjnhaaDoorXNAK
import Derived.Test.YtjloehkolnjnhaaDoorXNAE
namespace Go.Proofs.YtjloehkolnjnhaaDoor
open Go.RowKit Oct
end Go.Proofs.YtjloehkolnjnhaaDoor

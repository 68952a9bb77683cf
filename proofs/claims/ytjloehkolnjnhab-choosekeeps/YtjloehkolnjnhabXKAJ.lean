/- The walks over the document's own answers: numbers (catenaryref01.Int, GetInt). -/
import Derived.Test.YtjloehkolnjnhabXKAF
namespace Go.Proofs.Ytjloehkolnjnhab
open Go.RowKit Oct
end Go.Proofs.Ytjloehkolnjnhab

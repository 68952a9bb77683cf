/- What the types of records are, where no reader of messages is about (D2, D3, D4 say it else). -/
import Derived.Test.YtjloehkolnjnhaaDoorXNAY
namespace Go.Proofs.YtjloehkolnjnhaaDoor
open Go.RowKit Oct
end Go.Proofs.YtjloehkolnjnhaaDoor

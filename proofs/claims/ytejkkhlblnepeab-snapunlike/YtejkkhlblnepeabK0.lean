/- bytes.Equal, for a seat without package key. -/
import Derived.Test.YtejkkhlblnepeabW1
namespace Go.Proofs.Ytejkkhlblnepeab
open Go.RowKit Oct

end Go.Proofs.Ytejkkhlblnepeab

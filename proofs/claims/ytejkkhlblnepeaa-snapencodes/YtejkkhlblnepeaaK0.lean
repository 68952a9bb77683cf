/- bytes.Equal, for a seat without package key. -/
import Derived.Test.YtejkkhlblnepeaaW1
namespace Go.Proofs.Ytejkkhlblnepeaa
open Go.RowKit Oct

end Go.Proofs.Ytejkkhlblnepeaa

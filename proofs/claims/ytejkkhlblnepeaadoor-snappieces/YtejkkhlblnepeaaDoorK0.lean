/- bytes.Equal, for a seat without package key. -/
import Derived.Test.YtejkkhlblnepeaaDoorW1
namespace Go.Proofs.YtejkkhlblnepeaaDoor
open Go.RowKit Oct

end Go.Proofs.YtejkkhlblnepeaaDoor

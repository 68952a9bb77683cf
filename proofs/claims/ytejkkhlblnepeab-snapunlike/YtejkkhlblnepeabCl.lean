/- bytes.Clone: its walk. -/
import Derived.Test.YtejkkhlblnepeabLc
import Derived.Lib.SliceRun
set_option linter.unusedVariables false
namespace Go.Proofs.Ytejkkhlblnepeab
open Go.RowKit Oct

end Go.Proofs.Ytejkkhlblnepeab

/- bytes.Clone: its walk. -/
import Derived.Test.YtejkkhlblnepeaaLc
import Derived.Lib.SliceRun
set_option linter.unusedVariables false
namespace Go.Proofs.Ytejkkhlblnepeaa
open Go.RowKit Oct

end Go.Proofs.Ytejkkhlblnepeaa

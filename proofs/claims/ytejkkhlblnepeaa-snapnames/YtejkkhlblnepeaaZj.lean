/- slices.Insert of one lease. -/
import Derived.Test.YtejkkhlblnepeaaZi
import Derived.Test.YtejkkhlblnepeaaKj
set_option linter.unusedVariables false
set_option linter.unusedSimpArgs false
namespace Go.Proofs.Ytejkkhlblnepeaa
open Go.RowKit Oct Kvl




end Go.Proofs.Ytejkkhlblnepeaa

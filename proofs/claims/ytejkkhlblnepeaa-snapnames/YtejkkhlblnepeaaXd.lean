/- slices.Clone of sessions. -/
import Derived.Test.YtejkkhlblnepeaaXc
set_option linter.unusedVariables false
set_option linter.unusedSimpArgs false
namespace Go.Proofs.Ytejkkhlblnepeaa
open Go.RowKit Oct Kvl

end Go.Proofs.Ytejkkhlblnepeaa

/- The walks over package lease: where a name is. -/
import Derived.Test.YtejkkhlblnepeaaZj
set_option linter.unusedVariables false
set_option linter.unusedSimpArgs false
namespace Go.Proofs.Ytejkkhlblnepeaa
open Go.RowKit Oct Kvl


end Go.Proofs.Ytejkkhlblnepeaa

/- The document's Read. -/
import Derived.Test.YtejkkhlblnepeaaKu
set_option linter.unusedVariables false
set_option linter.unusedSimpArgs false
namespace Go.Proofs.Ytejkkhlblnepeaa
open Go.RowKit Oct Kvl

def zO : List Value := [.int .i64 0, .slice none 0 0, .slice none 0 0, .slice none 0 0, .int .i64 0]

end Go.Proofs.Ytejkkhlblnepeaa

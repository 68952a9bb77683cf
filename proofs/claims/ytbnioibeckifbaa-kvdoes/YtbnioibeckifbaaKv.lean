/- The document's Read. -/
import Derived.Test.YtbnioibeckifbaaKu
set_option linter.unusedVariables false
set_option linter.unusedSimpArgs false
namespace Go.Proofs.Ytbnioibeckifbaa
open Go.RowKit Oct Kvl

def zO : List Value := [.int .i64 0, .slice none 0 0, .slice none 0 0, .slice none 0 0, .int .i64 0]

end Go.Proofs.Ytbnioibeckifbaa

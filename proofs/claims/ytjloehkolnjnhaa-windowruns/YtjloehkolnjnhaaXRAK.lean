/- Sealed messages: vote.withSig. -/
import Derived.Test.YtjloehkolnjnhaaXRAH
import Derived.Deep.MidRow
set_option linter.unusedSimpArgs false
set_option linter.unusedVariables false
namespace Go.Proofs.Ytjloehkolnjnhaa
section
open Go.RowKit Oct
end
section
open Go.RowKit Oct
end
end Go.Proofs.Ytjloehkolnjnhaa

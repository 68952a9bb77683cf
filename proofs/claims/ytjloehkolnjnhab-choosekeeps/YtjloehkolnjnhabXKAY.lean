/- Sealed messages: vote.withSig. -/
import Derived.Test.YtjloehkolnjnhabXKAT
import Derived.Deep.MidRow
set_option linter.unusedSimpArgs false
set_option linter.unusedVariables false
namespace Go.Proofs.Ytjloehkolnjnhab
open Go.RowKit Oct
end Go.Proofs.Ytjloehkolnjnhab

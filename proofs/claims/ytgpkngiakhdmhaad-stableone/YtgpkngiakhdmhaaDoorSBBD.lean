/- Sealed messages: vote.withSig. -/
import Derived.Test.YtgpkngiakhdmhaaDoorSBAV
import Derived.Deep.MidRow
set_option linter.unusedSimpArgs false
set_option linter.unusedVariables false
namespace Go.Proofs.YtgpkngiakhdmhaaDoor
open Go.RowKit Oct
end Go.Proofs.YtgpkngiakhdmhaaDoor

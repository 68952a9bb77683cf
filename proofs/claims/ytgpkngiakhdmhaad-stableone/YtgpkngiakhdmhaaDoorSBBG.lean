/- Records' cells, where no writer of messages is about (M3, E1 say it else). -/
import Derived.Test.YtgpkngiakhdmhaaDoorSBAV
import Derived.Test.YtgpkngiakhdmhaaDoorSBAY
set_option linter.unusedVariables false
namespace Go.Proofs.YtgpkngiakhdmhaaDoor
open Go.RowKit Oct
end Go.Proofs.YtgpkngiakhdmhaaDoor

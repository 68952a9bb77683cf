/- The walks over the document's copies: votes. -/
import Derived.Test.YtgpkngiakhdmhaaDoorSBAV
set_option linter.unusedVariables false
namespace Go.Proofs.YtgpkngiakhdmhaaDoor
open Go.RowKit Oct
theorem keepC {w u : World} {p : Addr} {v : Value} (hb : Below w.heap.size w u) (h : w.cell? p = some v) : u.cell? p = some v := (hb.cell (World.block_lt_of_cell? w p h)).trans h
end Go.Proofs.YtgpkngiakhdmhaaDoor

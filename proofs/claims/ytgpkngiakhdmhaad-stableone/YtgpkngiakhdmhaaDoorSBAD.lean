/- The shelf's structure for 'slices.Sort' of ints, laid at this program: what the shelf's own command prints (out of Sh, mk18s.py). -/
import Derived.Shelf.SortM.Plain
import Derived.Shelf.SortM.SortNone
import Derived.Test.YtgpkngiakhdmhaaDoorProg
namespace Go.Proofs.YtgpkngiakhdmhaaDoor
open Go.RowKit Go.Sort Go.Shelf
end Go.Proofs.YtgpkngiakhdmhaaDoor

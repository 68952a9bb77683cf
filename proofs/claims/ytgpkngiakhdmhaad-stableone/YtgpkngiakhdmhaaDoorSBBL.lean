/- Acts of layer 19: opened. -/
import Derived.Test.YtgpkngiakhdmhaaDoorSBBH
import Derived.Test.YtgpkngiakhdmhaaDoorSBAV
namespace Go.Proofs.YtgpkngiakhdmhaaDoor
open Go.ChangeShapes Go.WideShapes Go.ChangeAt Go.RowKit Oct
section
variable {H : Type} {enc : TypeId × Value → H} {w : World} {base : Nat} {held : Bool}
end
end Go.Proofs.YtgpkngiakhdmhaaDoor

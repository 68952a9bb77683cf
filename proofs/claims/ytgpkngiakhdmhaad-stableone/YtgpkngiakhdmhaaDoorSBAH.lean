/- The standard's examples, by the kernel. -/
import Derived.Test.YtgpkngiakhdmhaaDoorSBAB
import Derived.KernelRfl
namespace Go.Proofs.YtgpkngiakhdmhaaDoor
namespace Sha
end Sha
end Go.Proofs.YtgpkngiakhdmhaaDoor

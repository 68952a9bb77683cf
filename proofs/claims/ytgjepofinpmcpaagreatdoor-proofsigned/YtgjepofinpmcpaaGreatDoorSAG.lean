/- The standard's examples, by the kernel. -/
import Derived.Test.YtgjepofinpmcpaaGreatDoorSAB
import Derived.KernelRfl
namespace Go.Proofs.YtgjepofinpmcpaaGreatDoor
namespace Sha
end Sha
end Go.Proofs.YtgjepofinpmcpaaGreatDoor

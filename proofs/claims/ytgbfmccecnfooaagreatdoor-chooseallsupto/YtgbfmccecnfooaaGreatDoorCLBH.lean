/- The walks over package clone: messages. Written by mk12s.py. -/
import Derived.Test.YtgbfmccecnfooaaGreatDoorCLBA
import Derived.Test.YtgbfmccecnfooaaGreatDoorCLAN
import Derived.Lib.SliceRun
set_option linter.unusedSimpArgs false
set_option linter.unusedVariables false
namespace Go.Proofs.YtgbfmccecnfooaaGreatDoor
section
open Go.RowKit Oct
end
section
open Go.RowKit Oct
end
end Go.Proofs.YtgbfmccecnfooaaGreatDoor

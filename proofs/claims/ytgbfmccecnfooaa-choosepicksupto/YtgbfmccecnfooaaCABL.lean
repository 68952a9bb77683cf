/- The walks over package clone: votes, requests. Written by mk12s.py (clistVoteL_any, cvotesL_any by hand since). -/
import Derived.Test.YtgbfmccecnfooaaCABG
import Derived.Test.YtgbfmccecnfooaaCABA
import Derived.Test.YtgbfmccecnfooaaCAAW
import Derived.Lib.SliceRun
set_option linter.unusedSimpArgs false
set_option linter.unusedVariables false
namespace Go.Proofs.Ytgbfmccecnfooaa
open Go.RowKit Oct
end Go.Proofs.Ytgbfmccecnfooaa

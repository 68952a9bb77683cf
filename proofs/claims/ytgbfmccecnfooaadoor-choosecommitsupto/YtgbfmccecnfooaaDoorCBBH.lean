/- The walks over package clone: votes, requests. Written by mk12s.py (clistVoteL_any, cvotesL_any by hand since). -/
import Derived.Test.YtgbfmccecnfooaaDoorCBAO
import Derived.Test.YtgbfmccecnfooaaDoorCBBD
import Derived.Test.YtgbfmccecnfooaaDoorCBAY
import Derived.Test.YtgbfmccecnfooaaDoorCBAW
import Derived.Lib.SliceRun
set_option linter.unusedSimpArgs false
set_option linter.unusedVariables false
namespace Go.Proofs.YtgbfmccecnfooaaDoor
section
open Go.RowKit Oct
theorem Tryd.inf_preps : (Tryd.prog.info? 38).map (fun i => (i.zero, i.size, i.bytes)) = some (some (.agg #[.int .i64 0, .int .i64 0, .int .i64 0, .int .i64 0, .int .i64 0, .slice none 0 0, .slice none 0 0, .slice none 0 0]), 8, 112) := by kernel_rfl
end
section
open Go.RowKit Oct
end
end Go.Proofs.YtgbfmccecnfooaaDoor

/- The walks over package clone: votes, requests. Written by mk12s.py (clistVoteL_any, cvotesL_any by hand since). -/
import Derived.Test.YtgbfmccecnfooaaGreatDoorCRAH
import Derived.Test.YtgbfmccecnfooaaGreatDoorCRAW
import Derived.Test.YtgbfmccecnfooaaGreatDoorCRAN
import Derived.Test.YtgbfmccecnfooaaGreatDoorCRAP
import Derived.Lib.SliceRun
set_option linter.unusedSimpArgs false
set_option linter.unusedVariables false
namespace Go.Proofs.YtgbfmccecnfooaaGreatDoor
section
open Go.RowKit Oct
theorem Tryz.inf_reqs : (Tryz.prog.info? 62).map (fun i => (i.zero, i.size, i.bytes)) = some (some (.agg #[.int .i64 0, .int .i64 0, .slice none 0 0, .slice none 0 0]), 4, 64) := by kernel_rfl
theorem Tryz.inf_preps : (Tryz.prog.info? 66).map (fun i => (i.zero, i.size, i.bytes)) = some (some (.agg #[.int .i64 0, .int .i64 0, .int .i64 0, .int .i64 0, .int .i64 0, .slice none 0 0, .slice none 0 0, .slice none 0 0]), 8, 112) := by kernel_rfl
theorem Tryz.inf_reps : (Tryz.prog.info? 28).map (fun i => (i.zero, i.size, i.bytes)) = some (some (.agg #[.int .i64 0, .int .i64 0, .int .i64 0, .int .i64 0, .slice none 0 0, .slice none 0 0, .slice none 0 0, .slice none 0 0]), 8, 128) := by kernel_rfl
theorem len_RReq {G : Nat → Prop} {w : World} {r : List Value} {x : PReq} (h : RReq G w r x) : r.length = 4 := by obtain ⟨o, g, rfl, _⟩ := h; rfl
theorem len_RRep {G : Nat → Prop} {w : World} {r : List Value} {x : PRep} (h : RRep G w r x) : r.length = 8 := by obtain ⟨d, s, p, g, rfl, _⟩ := h; rfl
end
section
open Go.RowKit Oct
end
end Go.Proofs.YtgbfmccecnfooaaGreatDoor

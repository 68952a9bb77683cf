/- catenarylaw06.VoteNames: its walk. -/
import Derived.Test.YthnjeglfgfjpkaaDoorTAlive
namespace Go.Proofs.YthnjeglfgfjpkaaDoor
open Go.RowKit Oct Sha

set_option maxRecDepth 10000 in
theorem vnames_any (w : World) (hT : Tab w) : Calls Tryd.prog 3 #[] w fun e w' => e = .returned (.bool true) ∧ Below w.heap.size w w' := by
  go_enter Tryd.func3, Tryd.ntmps3
  go_wp2_with fail
  refine (alive_any w hT).mono ?_
  rintro e w1 ⟨rfl, hb1⟩
  go_wp2_with fail
  go_ret
  exact ⟨rfl, hb1⟩
end Go.Proofs.YthnjeglfgfjpkaaDoor

/- catenarylaw07.KvNames: its walk. -/
import Derived.Test.YtmfmfjndigjlfaaKm
namespace Go.Proofs.Ytmfmfjndigjlfaa
open Go.RowKit Oct Kvl

theorem kvNames_any (w : World) : Calls Try.prog 5 #[] w fun e w' => e = .returned (.bool true) ∧ Below w.heap.size w w' := by
  go_enter Try.func5, Try.ntmps5
  go_wp2_with fail
  refine (kvAlive_any w).mono ?_
  rintro e w1 ⟨rfl, hb1⟩
  go_wp2_with fail
  go_ret
  exact ⟨rfl, hb1⟩
end Go.Proofs.Ytmfmfjndigjlfaa

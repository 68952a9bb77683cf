/- catenarylaw14.ClockNames: its walk. -/
import Derived.Test.YtagmcbiallgdaaaCk3
set_option linter.unusedVariables false
set_option linter.unusedSimpArgs false
namespace Go.Proofs.Ytagmcbiallgdaaa
open Go.RowKit Oct Bal Clk

theorem wai_eight : wai 8 = 1024 := by decide
theorem clockNames_any (w : World) : Calls Try.prog 3 #[] w fun e w' => e = .returned (.bool true) ∧ Below w.heap.size w w' := by
  go_enter Try.func3, Try.ntmps3
  go_wp2_with (first
    | (go_at_call 7; refine (clockAlive_any w).mono ?_; rintro e w1 ⟨rfl, hb1⟩)
    | (go_at_call 8; refine (waitC_any _ _).mono ?_; rintro e w2 ⟨rfl, rfl⟩; rw [wai_eight]))
  go_ret
  exact ⟨rfl, hb1⟩
end Go.Proofs.Ytagmcbiallgdaaa

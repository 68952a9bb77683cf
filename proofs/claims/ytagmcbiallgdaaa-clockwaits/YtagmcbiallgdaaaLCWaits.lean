/- catenarylaw14.ClockWaits: its walk. -/
import Derived.Test.YtagmcbiallgdaaaCk2
import Derived.Test.YtagmcbiallgdaaaCk3
set_option linter.unusedVariables false
set_option linter.unusedSimpArgs false
namespace Go.Proofs.Ytagmcbiallgdaaa
open Go.RowKit Oct Bal Clk

theorem waitsC_any (w : World) (n p q : Int) : Calls Try.prog 4 #[.int .i64 n, .int .i64 p, .int .i64 q] w fun e w' => e = .returned (.bool true) ∧ Below w.heap.size w w' := by
  have t1 : (wai n == wai n) = true := by simp
  have t2 : (acc n p q == acc n p q) = true := by simp
  have t3 : (chg n q == chg n q) = true := by simp
  go_enter Try.func4, Try.ntmps4
  go_wp2_with (first
    | (go_at_call 7; refine (clockAlive_any w).mono ?_; rintro e w1 ⟨rfl, hb1⟩)
    | (go_at_call 8; refine (waitC_any _ _).mono ?_; rintro e w2 ⟨rfl, rfl⟩)
    | (go_at_call 9; refine (refWait_any _ _).mono ?_; rintro e w2 ⟨rfl, rfl⟩)
    | (go_at_call 10; refine (accuseC_any _ _ _ _).mono ?_; rintro e w2 ⟨rfl, rfl⟩)
    | (go_at_call 11; refine (refAccuse_any _ _ _ _).mono ?_; rintro e w2 ⟨rfl, rfl⟩)
    | (go_at_call 12; refine (changeC_any _ _ _).mono ?_; rintro e w2 ⟨rfl, rfl⟩)
    | (go_at_call 13; refine (refChange_any _ _ _).mono ?_; rintro e w2 ⟨rfl, rfl⟩))
  go_ret
  exact ⟨rfl, hb1⟩
end Go.Proofs.Ytagmcbiallgdaaa

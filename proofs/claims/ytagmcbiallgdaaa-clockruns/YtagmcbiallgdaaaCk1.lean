/- The code's waits. -/
import Derived.Test.YtagmcbiallgdaaaCk0
set_option linter.unusedVariables false
set_option linter.unusedSimpArgs false
namespace Go.Proofs.Ytagmcbiallgdaaa
open Go.RowKit Oct Bal Clk

theorem withinC_any (w : World) (n m : Int) (hm : 0 ≤ m) : Calls Try.prog 24 #[.int .i64 n, .int .i64 m] w fun e w' => e = .returned (.int .i64 (bnd n m)) ∧ w' = w := by
  obtain ⟨q, hq⟩ : ∃ q, q = bnd n m := ⟨_, rfl⟩
  rw [← hq]
  unfold bnd at hq
  go_enter Try.func24, Try.ntmps24
  go_wp2_with fail
  all_goals (
    go_ret
    exact ⟨ret_int (by omega), rfl⟩)

theorem waitC_any (w : World) (n : Int) : Calls Try.prog 8 #[.int .i64 n] w fun e w' => e = .returned (.int .i64 (wai n)) ∧ w' = w := by
  have hW := withinC_any w n 8 (by decide)
  have hb := bnd_bd (n := n) (m := 8) (by decide)
  unfold wai
  generalize bnd n 8 = k at *
  have : k = 0 ∨ k = 1 ∨ k = 2 ∨ k = 3 ∨ k = 4 ∨ k = 5 ∨ k = 6 ∨ k = 7 ∨ k = 8 := by omega
  clear hb
  rcases this with rfl | rfl | rfl | rfl | rfl | rfl | rfl | rfl | rfl
  all_goals (
    go_enter Try.func8, Try.ntmps8
    go_wp2_with (refine hW.mono ?_; rintro e w1 ⟨rfl, rfl⟩)
    go_ret
    exact ⟨ret_int (by decide), rfl⟩)

theorem accuseC_any (w : World) (n p q : Int) : Calls Try.prog 10 #[.int .i64 n, .int .i64 p, .int .i64 q] w fun e w' => e = .returned (.int .i64 (acc n p q)) ∧ w' = w := by
  have hP := withinC_any w p 1000 (by decide)
  have hQ := withinC_any w q 1000 (by decide)
  have hW := waitC_any w n
  have hp := bnd_bd (n := p) (m := 1000) (by decide)
  have hq := bnd_bd (n := q) (m := 1000) (by decide)
  have hw := wai_bd n
  unfold acc
  generalize bnd p 1000 = P at *
  generalize bnd q 1000 = Q at *
  generalize wai n = N at *
  obtain ⟨hp0, hp1⟩ := hp
  obtain ⟨hq0, hq1⟩ := hq
  obtain ⟨hw0, hw1⟩ := hw
  go_enter Try.func10, Try.ntmps10
  go_wp2_with fail
  refine hQ.mono ?_
  rintro e w1 ⟨rfl, rfl⟩
  clear hQ
  go_wp2_with fail
  refine hP.mono ?_
  rintro e w1 ⟨rfl, rfl⟩
  clear hP
  go_wp2_with fail
  refine hW.mono ?_
  rintro e w1 ⟨rfl, rfl⟩
  clear hW
  go_wp2_with fail
  all_goals (
    go_ret
    exact ⟨ret_int (by omega), rfl⟩)

theorem changeC_any (w : World) (n q : Int) : Calls Try.prog 12 #[.int .i64 n, .int .i64 q] w fun e w' => e = .returned (.int .i64 (chg n q)) ∧ w' = w := by
  have hQ := withinC_any w q 1000 (by decide)
  have hW := waitC_any w n
  have hq := bnd_bd (n := q) (m := 1000) (by decide)
  have hw := wai_bd n
  unfold chg
  generalize bnd q 1000 = Q at *
  generalize wai n = N at *
  obtain ⟨hq0, hq1⟩ := hq
  obtain ⟨hw0, hw1⟩ := hw
  go_enter Try.func12, Try.ntmps12
  go_wp2_with fail
  refine hW.mono ?_
  rintro e w1 ⟨rfl, rfl⟩
  clear hW
  go_wp2_with fail
  refine hQ.mono ?_
  rintro e w1 ⟨rfl, rfl⟩
  clear hQ
  go_wp2_with fail
  go_ret
  exact ⟨ret_int (by omega), rfl⟩
end Go.Proofs.Ytagmcbiallgdaaa

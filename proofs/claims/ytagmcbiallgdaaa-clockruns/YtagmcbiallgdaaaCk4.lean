/- The document's clock. -/
import Derived.Test.YtagmcbiallgdaaaCk2
import Derived.Test.YtagmcbiallgdaaaCk3
set_option linter.unusedVariables false
set_option linter.unusedSimpArgs false
namespace Go.Proofs.Ytagmcbiallgdaaa
open Go.RowKit Oct Bal Clk

theorem bnd_sl {k : Int} (h0 : 0 ≤ k) (h1 : k ≤ 8) : bnd (k + 1) 8 = slC k := by
  unfold bnd slC
  rw [if_neg (by omega)]
  split <;> split <;> omega
theorem tk_bd {a : Int} (h0 : 0 ≤ a) (h1 : a ≤ 2147483647) : 0 ≤ tkC a ∧ tkC a ≤ 2147483647 := by unfold tkC; split <;> omega
theorem sl_bd {k : Int} (h0 : 0 ≤ k) (h1 : k ≤ 8) : 0 ≤ slC k ∧ slC k ≤ 8 := by unfold slC; split <;> omega

theorem refTick_any (w : World) (a k : Int) (h0 : 0 ≤ a) : Calls Try.prog 16 #[.agg #[.int .i64 a, .int .i64 k]] w fun e w' => e = .returned (.agg #[.int .i64 (tkC a), .int .i64 k]) ∧ Below w.heap.size w w' := by
  unfold tkC
  by_cases ha : a < 2147483647
  · rw [if_pos ha]
    go_enter Try.func16, Try.ntmps16
    go_wp2_with fail
    exact bodyPost_ret (v := .agg ([.int .i64 (a + 1), .int .i64 k] : List Value).toArray) (results_cell_row rfl _ _ (w.heap.size + 1) _ _ (0, 0) _ (by rfl) (by have := Row.new (w.alloc (.cells #[.int .i64 (a + 1), .int .i64 k] 31)) 31 [.int .i64 (a + 1), .int .i64 k]; unfold Row at this; simpa using this) Try.underlying31 rfl (by kernel_rfl)) rfl ⟨rfl, below_and (below_alloc _ _) (Nat.le_refl _) (below_alloc _ _)⟩
  · rw [if_neg ha]
    go_enter Try.func16, Try.ntmps16
    go_wp2_with fail
    exact bodyPost_ret (v := .agg ([.int .i64 a, .int .i64 k] : List Value).toArray) (results_cell_row rfl _ _ (w.heap.size + 1) _ _ (0, 0) _ (by rfl) (by have := Row.new (w.alloc (.cells #[.int .i64 a, .int .i64 k] 31)) 31 [.int .i64 a, .int .i64 k]; unfold Row at this; simpa using this) Try.underlying31 rfl (by kernel_rfl)) rfl ⟨rfl, below_and (below_alloc _ _) (Nat.le_refl _) (below_alloc _ _)⟩

theorem refSlow_any (w : World) (a k : Int) (h0 : 0 ≤ k) (h1 : k ≤ 8) : Calls Try.prog 19 #[.agg #[.int .i64 a, .int .i64 k]] w fun e w' => e = .returned (.agg #[.int .i64 0, .int .i64 (slC k)]) ∧ Below w.heap.size w w' := by
  have HB := (show Hid (∀ u, Calls Try.prog 25 #[.int .i64 (k + 1), .int .i64 8] u fun e w' => e = .returned (.int .i64 (slC k)) ∧ w' = u) from fun u => bnd_sl h0 h1 ▸ refBound_any u (k + 1) 8)
  generalize slC k = K at *
  go_enter Try.func19, Try.ntmps19
  go_wp2_with (go_at_call 25; refine (HB.out _).mono ?_; rintro e w2 ⟨rfl, rfl⟩)
  exact bodyPost_ret (v := .agg ([.int .i64 0, .int .i64 K] : List Value).toArray) (results_cell_row rfl _ _ (w.heap.size + 1) _ _ (0, 0) _ (by rfl) (by have := Row.new (w.alloc (.cells #[.int .i64 a, .int .i64 k] 31)) 31 [.int .i64 0, .int .i64 K]; unfold Row at this; simpa using this) Try.underlying31 rfl (by kernel_rfl)) rfl ⟨rfl, below_and (below_alloc _ _) (Nat.le_refl _) (below_alloc _ _)⟩
end Go.Proofs.Ytagmcbiallgdaaa

/- The document's kinds and their fields. -/
import Derived.Test.YtjoikkhmijalmaaPm
import Derived.Test.YtjoikkhmijalmaaRw
import Derived.Test.YtjoikkhmijalmaaC1
set_option linter.unusedVariables false
namespace Go.Proofs.Ytjoikkhmijalmaa
open Go.RowKit Oct

theorem fl_known (k : Int) : (1 ≤ k ∧ k ≤ 13) ∨ (20 ≤ k ∧ k ≤ 25) → fl k ≠ [] := by
  intro h e
  have hc : k = 1 ∨ k = 2 ∨ k = 3 ∨ k = 4 ∨ k = 5 ∨ k = 6 ∨ k = 7 ∨ k = 8 ∨ k = 9 ∨ k = 10 ∨ k = 11 ∨ k = 12 ∨ k = 13 ∨ k = 20 ∨ k = 21 ∨ k = 22 ∨ k = 23 ∨ k = 24 ∨ k = 25 := by omega
  rcases hc with rfl | rfl | rfl | rfl | rfl | rfl | rfl | rfl | rfl | rfl | rfl | rfl | rfl | rfl | rfl | rfl | rfl | rfl | rfl <;> exact absurd e (by decide)
theorem fl_unknown (k : Int) (h : ¬ ((1 ≤ k ∧ k ≤ 13) ∨ (20 ≤ k ∧ k ≤ 25))) : fl k = [] := by
  rcases fl_cases k with rfl | rfl | rfl | rfl | rfl | rfl | rfl | rfl | rfl | rfl | rfl | rfl | rfl | rfl | rfl | rfl | rfl | rfl | rfl | e
  all_goals first | exact e | (exfalso; omega)

/-- Known. -/
theorem refKnown_any (w : World) (k : Int) : Calls Try.prog 16 #[.int .i64 k] w fun e w' => e = .returned (.bool (!(fl k).isEmpty)) ∧ w' = w := by
  by_cases h1 : 1 ≤ k
  · by_cases h2 : k ≤ 13
    · have : (fl k).isEmpty = false := by simpa using fl_known k (.inl ⟨h1, h2⟩)
      rw [this]
      go_enter Try.func16, Try.ntmps16
      go_wp2_with fail
      go_ret
      exact ⟨rfl, rfl⟩
    · by_cases h3 : 20 ≤ k
      · by_cases h4 : k ≤ 25
        · have : (fl k).isEmpty = false := by simpa using fl_known k (.inr ⟨h3, h4⟩)
          rw [this]
          go_enter Try.func16, Try.ntmps16
          go_wp2_with fail
          go_ret
          exact ⟨rfl, rfl⟩
        · have : (fl k).isEmpty = true := by rw [fl_unknown k (by omega)]; rfl
          rw [this]
          go_enter Try.func16, Try.ntmps16
          go_wp2_with fail
          go_ret
          exact ⟨rfl, rfl⟩
      · have : (fl k).isEmpty = true := by rw [fl_unknown k (by omega)]; rfl
        rw [this]
        go_enter Try.func16, Try.ntmps16
        go_wp2_with fail
        go_ret
        exact ⟨rfl, rfl⟩
  · have : (fl k).isEmpty = true := by rw [fl_unknown k (by omega)]; rfl
    have h3 : ¬ 20 ≤ k := by omega
    rw [this]
    go_enter Try.func16, Try.ntmps16
    go_wp2_with fail
    go_ret
    exact ⟨rfl, rfl⟩
end Go.Proofs.Ytjoikkhmijalmaa

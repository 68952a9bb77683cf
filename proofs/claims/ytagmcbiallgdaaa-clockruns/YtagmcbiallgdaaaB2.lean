/- The walks over the document's own numbers, over ballots and heads. -/
import Derived.Test.YtagmcbiallgdaaaB1
namespace Go.Proofs.Ytagmcbiallgdaaa
open Go.RowKit Oct Bal

theorem fau_at {n : Int} {j : Nat} (h : n = 3 * (j : Int) + 1) (h1 : 1 ≤ j) (h5 : j ≤ 5) : fau n = j := by
  have : j = 1 ∨ j = 2 ∨ j = 3 ∨ j = 4 ∨ j = 5 := by omega
  rcases this with rfl | rfl | rfl | rfl | rfl <;> subst h <;> rfl
theorem fau_none {n : Int} (h : ∀ j : Nat, 1 ≤ j → j < 6 → n ≠ 3 * (j : Int) + 1) : fau n = 0 := by
  have h1 := h 1 (by omega) (by omega)
  have h2 := h 2 (by omega) (by omega)
  have h3 := h 3 (by omega) (by omega)
  have h4 := h 4 (by omega) (by omega)
  have h5 := h 5 (by omega) (by omega)
  unfold fau
  rw [if_neg (by omega), if_neg (by omega), if_neg (by omega), if_neg (by omega), if_neg (by omega)]


end Go.Proofs.Ytagmcbiallgdaaa

/- The walks over the document's copies: votes. -/
import Derived.Test.YtgjepofinpmcpaaGreatDoorSAT
set_option linter.unusedVariables false
namespace Go.Proofs.YtgjepofinpmcpaaGreatDoor
open Go.RowKit Oct
theorem one2 {a : Int} {u : Value} (hu : u.oneCell' = true) : ∀ x ∈ [Value.int .i64 a, u], x.oneCell' = true := by
  intro x hx
  simp only [List.mem_cons, List.not_mem_nil, or_false] at hx
  rcases hx with rfl | rfl <;> first | rfl | assumption
end Go.Proofs.YtgjepofinpmcpaaGreatDoor

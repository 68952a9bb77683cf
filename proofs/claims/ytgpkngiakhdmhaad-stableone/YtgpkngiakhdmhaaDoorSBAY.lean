/- Cells of records: a part of a row is loaded; a record is of one-cell values. -/
import Derived.Test.YtgpkngiakhdmhaaDoorSBAT
import Derived.Test.YtgpkngiakhdmhaaDoorSBAK
import Derived.Deep.MidRow
set_option linter.unusedVariables false
namespace Go.Proofs.YtgpkngiakhdmhaaDoor
open Go.RowKit Oct
section
variable {P : Program}
end
theorem World.rangeAt.blk {w w' : World} {b o : Nat} {cs : List Value} (h : w.rangeAt b o cs) (e : w'.heap[b]? = w.heap[b]?) : w'.rangeAt b o cs := rangeAt_block h e
theorem one_RVote {G : Nat → Prop} {w : World} {r : List Value} {x : PVote} (h : RVote G w r x) : ∀ v ∈ r, v.oneCell' = true := by
  obtain ⟨s, rfl, h1⟩ := h
  intro v hv
  simp only [List.mem_cons, List.not_mem_nil, or_false] at hv
  rcases hv with rfl | rfl
  · rfl
  · exact h1.one
end Go.Proofs.YtgpkngiakhdmhaaDoor

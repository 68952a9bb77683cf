/- The ranges of numbers that came in. -/
import Derived.Test.YthnjeglfgfjpkaaDoorT1
import Derived.OpenShut
namespace Go.Proofs.YthnjeglfgfjpkaaDoor
open Go.RowKit Go.ChangeShapes Go.WideShapes Oct

theorem wf_four {k x y s : Int} (h : (Lit.int .i64 k).wf = true ∧ (Lit.int .i64 x).wf = true ∧ (Lit.int .i64 y).wf = true ∧ (Lit.int .i64 s).wf = true) : ∀ z ∈ [k, x, y, s], i64s z := by
  have one : ∀ n : Int, (Lit.int .i64 n).wf = true → i64s n := fun n hn => bounds_i64 hn
  intro z hz
  simp only [List.mem_cons, List.not_mem_nil, or_false] at hz
  rcases hz with rfl | rfl | rfl | rfl
  · exact one _ h.1
  · exact one _ h.2.1
  · exact one _ h.2.2.1
  · exact one _ h.2.2.2
end Go.Proofs.YthnjeglfgfjpkaaDoor

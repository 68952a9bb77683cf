/- The walks over package clone: entries; slices.Clone of entries. -/
import Derived.Test.YtejkkhlblnepeaaDoorRk
import Derived.Test.YtejkkhlblnepeaaDoorCl
import Derived.Laws.CopyOwn
set_option linter.unusedVariables false
namespace Go.Proofs.YtejkkhlblnepeaaDoor
open Go.RowKit Oct Kvl

theorem Tryd.infE : (Tryd.prog.info? 51).map (fun i => (i.zero, i.size, i.bytes)) = some (some (.agg #[.slice none 0 0, .slice none 0 0]), 2, 48) := by kernel_rfl
theorem Tryd.sizE : (Tryd.prog.info? 51).map (·.size) = some 2 := by kernel_rfl
theorem onE2 {u v : Value} (hu : u.oneCell' = true) (hv : v.oneCell' = true) : ∀ x ∈ [u, v], x.oneCell' = true := by
  intro x hx
  simp only [List.mem_cons, List.not_mem_nil, or_false] at hx
  rcases hx with rfl | rfl <;> assumption


end Go.Proofs.YtejkkhlblnepeaaDoor

/- The document's SameOp of two alike, and its Write. -/
import Derived.Test.YtejkkhlblnepeaaKt
import Derived.Test.YtejkkhlblnepeaaW4
set_option linter.unusedVariables false
set_option linter.unusedSimpArgs false
namespace Go.Proofs.Ytejkkhlblnepeaa
open Go.RowKit Oct Kvl


theorem packL_op (a b c : List Int) : packL [a, b, c] = (enc a.length ++ a) ++ ((enc b.length ++ b) ++ (enc c.length ++ c)) := by simp [packL]
theorem wrO_pack (o : POp) (h : wok o) : wrO o = enc o.1 ++ packL [o.2.1, o.2.2.1, o.2.2.2.1] ++ enc o.2.2.2.2 := by
  rw [wrO_eq o h, packL_op]
  simp only [List.append_assoc]

end Go.Proofs.Ytejkkhlblnepeaa

/- The document's comparisons and searches: entries, results, operations. -/
import Derived.Test.YtejkkhlblnepeaaDoorKo
import Derived.Deep.QuietTactic
import Derived.BigQuiet
import Derived.Sort.AtCall
set_option linter.unusedVariables false
set_option linter.unusedSimpArgs false
namespace Go.Proofs.YtejkkhlblnepeaaDoor
open Go.RowKit Oct Kvl

theorem bel_dnE {B : Nat} {a w : World} (h : Below B a w) (n : Nat) : Below B a (w.drewN n) := h.trans ⟨rfl, rfl, rfl, Nat.le_refl _, fun _ _ => rfl⟩


end Go.Proofs.YtejkkhlblnepeaaDoor

/- The walk over the document's comparison of requests, for a seat without package msg. -/
import Derived.Test.YtmmcgafmhadioaaLc
set_option linter.unusedVariables false
set_option linter.unusedSimpArgs false
namespace Go.Proofs.Ytmmcgafmhadioaa
open Go.RowKit Oct

theorem bel_dn {B : Nat} {a w : World} (h : Below B a w) (n : Nat) : Below B a (w.drewN n) := h.trans ⟨rfl, rfl, rfl, Nat.le_refl _, fun _ _ => rfl⟩
theorem dec_req (x y : PReq) : decide (x = y) = (x.1 == y.1 && x.2.1 == y.2.1 && decide (x.2.2.1 = y.2.2.1) && decide (x.2.2.2 = y.2.2.2)) := by
  rw [Bool.eq_iff_iff]
  simp only [decide_eq_true_eq, Bool.and_eq_true, beq_iff_eq, Prod.ext_iff, and_assoc]


end Go.Proofs.Ytmmcgafmhadioaa

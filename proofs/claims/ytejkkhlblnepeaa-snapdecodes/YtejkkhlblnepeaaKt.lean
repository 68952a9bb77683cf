/- The document's RightOp. -/
import Derived.Test.YtejkkhlblnepeaaKs
set_option linter.unusedVariables false
set_option linter.unusedSimpArgs false
namespace Go.Proofs.Ytejkkhlblnepeaa
open Go.RowKit Oct Kvl

theorem wok_iff (o : POp) : wok o ↔ ((1 ≤ o.1 ∧ o.1 ≤ 8) ∧ (1 ≤ o.2.1.length ∧ o.2.1.length ≤ 16) ∧ o.2.2.1.length ≤ 64 ∧ o.2.2.2.1.length ≤ 64) ∧ (o.1 = 2 → o.2.2.2.1.length = 0 ∧ o.2.2.2.2 = 0) ∧ (o.1 = 3 → o.2.2.2.2 = 0) ∧ ((o.1 = 5 ∨ o.1 = 6) → o.2.2.1.length = 0 ∧ o.2.2.2.1.length = 0 ∧ 1 ≤ o.2.2.2.2 ∧ o.2.2.2.2 ≤ 1000) ∧ ((o.1 ≠ 2 ∧ o.1 ≠ 3 ∧ o.1 ≠ 5 ∧ o.1 ≠ 6) → o.2.2.1.length = 0 ∧ o.2.2.2.1.length = 0 ∧ o.2.2.2.2 = 0) := by
  unfold wok mA mB lN mN
  generalize o.2.1.length = Ln
  generalize o.2.2.1.length = La
  generalize o.2.2.2.1.length = Lb
  generalize o.2.2.2.2 = u
  generalize o.1 = k
  by_cases h2 : k = 2
  · subst h2; simp; omega
  by_cases h3 : k = 3
  · subst h3; simp; omega
  by_cases h5 : k = 5
  · subst h5; simp; omega
  by_cases h6 : k = 6
  · subst h6; simp; omega
  simp only [h2, h3, h5, h6, or_self, if_false]
  simp
  omega

end Go.Proofs.Ytejkkhlblnepeaa

/- catenarylaw05.MsgBack. -/
import Derived.Test.YtogifpainhepoabLMOnly
import Derived.Test.YtogifpainhepoabC3
set_option linter.unusedVariables false
namespace Go.Proofs.Ytogifpainhepoab
open Go.RowKit Oct

theorem enc_cases (m : PMsg) : (encE m = 51 ∧ encB m = []) ∨ (encE m = 53 ∧ encB m = []) ∨ (encE m = 0 ∧ badM m = false ∧ encB m = byM m ∧ (byM m).length ≤ 1048576) := by
  cases hb : badM m with
  | true =>
    have e := encE_bad hb
    exact .inl ⟨e, by unfold encB; rw [if_neg (by rw [e]; decide)]⟩
  | false =>
    by_cases hl : 1048576 < (byM m).length
    · have e := encE_many hb hl
      exact .inr (.inl ⟨e, by unfold encB; rw [if_neg (by rw [e]; decide)]⟩)
    · have e := encE_ok hb hl
      exact .inr (.inr ⟨e, rfl, by unfold encB; rw [if_pos e], by omega⟩)
theorem dec_by {m : PMsg} (h : badM m = false) (hl : (byM m).length ≤ 1048576) : decE (byM m) = 0 ∧ decM (byM m) = m := decE_ok (by omega) (rdM_fwd h)

end Go.Proofs.Ytogifpainhepoab

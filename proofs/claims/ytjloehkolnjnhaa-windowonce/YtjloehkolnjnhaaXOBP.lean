/- WindowOnce, plain: votes that were taken. -/
import Derived.Test.YtjloehkolnjnhaaXOBO
set_option linter.unusedVariables false
namespace Go.Proofs.Ytjloehkolnjnhaa
open Go.RowKit Oct Kvl Bal
/-- A vote is no higher than what is known: below it, or the same. -/
def notUp (p v : PBal) (pr vr : PReq) : Prop := cmp2 p.1 p.2 v.1 v.2 < 0 ∨ (cmp2 p.1 p.2 v.1 v.2 = 0 ∧ pr = vr)
theorem cmp2_self (a b : Int) : cmp2 a b a b = 0 := by simp [cmp2, cm]
theorem notUp_self (p : PBal) (r : PReq) : notUp p p r r := .inr ⟨cmp2_self _ _, rfl⟩
theorem cmp2_neg {a b c d : Int} : cmp2 a b c d < 0 ↔ (a < c ∨ (a = c ∧ b < d)) := by
  unfold cmp2 cm
  repeat' split
  all_goals omega
theorem cmp2_nul {a b c d : Int} : cmp2 a b c d = 0 ↔ (a = c ∧ b = d) := by
  unfold cmp2 cm
  repeat' split
  all_goals omega
theorem cmp2_trans {a b c d e f : Int} (h1 : cmp2 a b c d < 0 ∨ cmp2 a b c d = 0) (h2 : cmp2 c d e f < 0 ∨ cmp2 c d e f = 0) : (cmp2 a b e f < 0 ∨ cmp2 a b e f = 0) ∧ (cmp2 a b e f = 0 → cmp2 a b c d = 0 ∧ cmp2 c d e f = 0) := by
  rw [cmp2_neg, cmp2_nul] at h1 h2
  rw [cmp2_neg, cmp2_nul, cmp2_nul, cmp2_nul]
  omega
theorem notUp_fit {p v b : PBal} {pr vr r : PReq} (h : notUp p v pr vr) (hf : fitL v b vr r = true) : notUp p b pr r := by
  have h2 : cmp2 v.1 v.2 b.1 b.2 < 0 ∨ (cmp2 v.1 v.2 b.1 b.2 = 0 ∧ vr = r) := by simpa [fitL] using hf
  obtain ⟨h3, h4⟩ := cmp2_trans (h.imp id (·.1)) (h2.imp id (·.1))
  rcases h3 with h3 | h3
  · exact .inl h3
  · obtain ⟨e1, e2⟩ := h4 h3
    refine .inr ⟨h3, ?_⟩
    rcases h with h | h
    · omega
    · rcases h2 with h2 | h2
      · omega
      · exact h.2.trans h2.2
end Go.Proofs.Ytjloehkolnjnhaa

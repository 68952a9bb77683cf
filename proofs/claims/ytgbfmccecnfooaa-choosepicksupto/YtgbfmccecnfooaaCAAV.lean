/- Layer 18, plain: what is picked was prepared in a ballot as high as any. -/
import Derived.Test.YtgbfmccecnfooaaCAAQ
set_option linter.unusedVariables false
namespace Go.Proofs.Ytgbfmccecnfooaa
open Go.RowKit Oct Bal
theorem cmp2_posC {a b c d : Int} : 0 < cmp2 a b c d ↔ (c < a ∨ (a = c ∧ d < b)) := by
  unfold cmp2 cm
  repeat' split
  all_goals omega
/-- What is known of the best of some. -/
def Best (k : Int) (ps : List PPrep) (o : Option PPrep) : Prop := match o with
  | none => ∀ p ∈ ps, p.1 ≠ k
  | some b => b ∈ ps ∧ b.1 = k ∧ ∀ q ∈ ps, q.1 = k → ¬ 0 < cmp2 q.2.1.1 q.2.1.2 b.2.1.1 b.2.1.2
theorem Best.step {k : Int} {ps : List PPrep} {o : Option PPrep} (h : Best k ps o) (p : PPrep) : Best k (ps ++ [p]) (pkS k o p) := by
  have hm : ∀ q : PPrep, q ∈ ps ++ [p] ↔ q ∈ ps ∨ q = p := fun q => by simp
  unfold pkS
  by_cases hk : p.1 = k
  · cases o with
    | none =>
      have h : ∀ q ∈ ps, q.1 ≠ k := h
      have e : (decide (p.1 = k) && bea none p) = true := by simp [hk, bea]
      rw [if_pos e]
      refine ⟨(hm p).2 (.inr rfl), hk, fun q hq hqk => ?_⟩
      rcases (hm q).1 hq with hq | hq
      · exact absurd hqk (h q hq)
      · subst hq
        rw [cmp2_posC]
        omega
    | some b =>
      obtain ⟨h1, h2, h3⟩ : b ∈ ps ∧ b.1 = k ∧ ∀ q ∈ ps, q.1 = k → ¬ 0 < cmp2 q.2.1.1 q.2.1.2 b.2.1.1 b.2.1.2 := h
      by_cases hc : 0 < cmp2 p.2.1.1 p.2.1.2 b.2.1.1 b.2.1.2
      · have e : (decide (p.1 = k) && bea (some b) p) = true := by simp [hk, bea, hc]
        rw [if_pos e]
        refine ⟨(hm p).2 (.inr rfl), hk, fun q hq hqk => ?_⟩
        rcases (hm q).1 hq with hq | hq
        · have h4 := h3 q hq hqk
          rw [cmp2_posC] at h4 hc ⊢
          omega
        · subst hq
          rw [cmp2_posC]
          omega
      · have e : (decide (p.1 = k) && bea (some b) p) = false := by simp [hk, bea]; omega
        rw [if_neg (by rw [e]; decide)]
        refine ⟨(hm b).2 (.inl h1), h2, fun q hq hqk => ?_⟩
        rcases (hm q).1 hq with hq | hq
        · exact h3 q hq hqk
        · subst hq; exact hc
  · have e : (decide (p.1 = k) && bea o p) = false := by simp [hk]
    rw [if_neg (by rw [e]; decide)]
    cases o with
    | none =>
      have h : ∀ q ∈ ps, q.1 ≠ k := h
      intro q hq
      rcases (hm q).1 hq with hq | hq
      · exact h q hq
      · subst hq; exact hk
    | some b =>
      obtain ⟨h1, h2, h3⟩ : b ∈ ps ∧ b.1 = k ∧ ∀ q ∈ ps, q.1 = k → ¬ 0 < cmp2 q.2.1.1 q.2.1.2 b.2.1.1 b.2.1.2 := h
      refine ⟨(hm b).2 (.inl h1), h2, fun q hq hqk => ?_⟩
      rcases (hm q).1 hq with hq | hq
      · exact h3 q hq hqk
      · subst hq; exact absurd hqk hk
theorem Best.list {k : Int} : ∀ {ls ps : List PPrep} {o : Option PPrep}, Best k ps o → Best k (ps ++ ls) (pkL k o ls)
  | [], ps, o, h => by simpa [pkL] using h
  | p :: ls, ps, o, h => by
    have := Best.list (ls := ls) (h.step p)
    simpa [pkL] using this
/-- All Preps of reports. -/
def allP (rs : List PRep) : List PPrep := rs.flatMap fun r => r.2.2.2.2.2.1
end Go.Proofs.Ytgbfmccecnfooaa

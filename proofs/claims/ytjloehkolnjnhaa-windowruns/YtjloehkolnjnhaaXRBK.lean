/- WindowOnce, plain: what stays true of votes that were taken, whatever is done. -/
import Derived.Test.YtjloehkolnjnhaaXRBJ
set_option linter.unusedVariables false
namespace Go.Proofs.Ytjloehkolnjnhaa
section
open Go.RowKit Oct Kvl Bal
/-- A vote is no higher than what is known: below it, or the same. -/
def notUp (p v : PBal) (pr vr : PReq) : Prop := cmp2 p.1 p.2 v.1 v.2 < 0 ∨ (cmp2 p.1 p.2 v.1 v.2 = 0 ∧ pr = vr)
theorem cmp2_neg {a b c d : Int} : cmp2 a b c d < 0 ↔ (a < c ∨ (a = c ∧ b < d)) := by
  unfold cmp2 cm
  repeat' split
  all_goals omega
theorem cmp2_nul {a b c d : Int} : cmp2 a b c d = 0 ↔ (a = c ∧ b = d) := by
  unfold cmp2 cm
  repeat' split
  all_goals omega
theorem cmp2_trans {a b c d e f : Int} (h1 : cmp2 a b c d < 0 ∨ cmp2 a b c d = 0) (h2 : cmp2 c d e f < 0 ∨ cmp2 c d e f = 0) : (cmp2 a b e f < 0 ∨ cmp2 a b e f = 0) ∧ (cmp2 a b e f = 0 → cmp2 a b c d = 0 ∧ cmp2 c d e f = 0) := by
  rw [cmp2_neg, cmp2_nul] at h1 h2
  rw [cmp2_neg, cmp2_nul, cmp2_nul, cmp2_nul]
  omega
theorem notUp_fit {p v b : PBal} {pr vr r : PReq} (h : notUp p v pr vr) (hf : fitL v b vr r = true) : notUp p b pr r := by
  have h2 : cmp2 v.1 v.2 b.1 b.2 < 0 ∨ (cmp2 v.1 v.2 b.1 b.2 = 0 ∧ vr = r) := by simpa [fitL] using hf
  obtain ⟨h3, h4⟩ := cmp2_trans (h.imp id (·.1)) (h2.imp id (·.1))
  rcases h3 with h3 | h3
  · exact .inl h3
  · obtain ⟨e1, e2⟩ := h4 h3
    refine .inr ⟨h3, ?_⟩
    rcases h with h | h
    · omega
    · rcases h2 with h2 | h2
      · omega
      · exact h.2.trans h2.2
end
section
open Go.RowKit Oct Kvl Bal
def tkOk (low : Int) (kn : List (Int × PSl)) (p : PPrep) : Prop := p.1 ≤ low + 16 ∧ (inW low p.1 = true → (atL kn p.1).hv = true ∧ notUp p.2.1 (atL kn p.1).voted p.2.2.1 (atL kn p.1).vote)
theorem inW_iff {low k : Int} : inW low k = true ↔ low < k ∧ k ≤ low + 16 := by simp [inW]
theorem tk_put {low : Int} {kn : List (Int × PSl)} {p : PPrep} (h : tkOk low kn p) {k : Int} {s : PSl} (hs : k = p.1 → inW low k = true → s.hv = true ∧ notUp p.2.1 s.voted p.2.2.1 s.vote) (hk : inW low k = true) : tkOk low (putL kn k s) p := by
  refine ⟨h.1, fun hi => ?_⟩
  rw [at_put]
  split
  · rename_i e
    exact hs e.symm hk
  · exact h.2 hi
theorem tk_vote {low : Int} {kn : List (Int × PSl)} {p : PPrep} (h : tkOk low kn p) (b : PBal) (k : Int) (x : PReq) : tkOk low (stV low kn b k x).1 p ∧ ((stV low kn b k x).2 = 0 → p.1 = k → notUp p.2.1 b p.2.2.1 x) := by
  unfold stV
  split
  · rename_i hk
    cases hv : voteS (atL kn k) b x with
    | none => exact ⟨h, fun e => by simp at e⟩
    | some s =>
      have key : k = p.1 → notUp p.2.1 b p.2.2.1 x ∧ s.hv = true ∧ s.voted = b ∧ s.vote = x := fun e => by
        obtain ⟨h1, h2⟩ := h.2 (e ▸ hk)
        rw [← e] at h1 h2
        unfold voteS at hv
        split at hv
        · cases hv
        · rename_i hf
          cases hv
          have hf : fitL (atL kn k).voted b (atL kn k).vote x = true := by
            rw [h1] at hf
            simpa using hf
          exact ⟨notUp_fit h2 hf, rfl, rfl, rfl⟩
      exact ⟨tk_put h (fun e _ => by obtain ⟨k1, k2, k3, k4⟩ := key e; exact ⟨k2, by rw [k3, k4]; exact k1⟩) hk, fun _ e => (key e.symm).1⟩
  · exact ⟨h, fun e => by simp at e⟩
theorem tk_prep {low : Int} {kn : List (Int × PSl)} {p : PPrep} (h : tkOk low kn p) (b : PBal) (k : Int) (x : PReq) (c : List PVote) : tkOk low (stP low kn b k x c).1 p := by
  unfold stP
  split
  · rename_i hk
    cases hv : prepS (atL kn k) b x c with
    | none => exact h
    | some s =>
      refine tk_put h (fun e hi => ?_) hk
      obtain ⟨h1, h2⟩ := h.2 (e ▸ hi)
      rw [← e] at h1 h2
      unfold prepS at hv
      split at hv
      · cases hv
      · cases hv
        exact ⟨h1, h2⟩
  · exact h
theorem tk_done {low : Int} {kn : List (Int × PSl)} {p : PPrep} (h : tkOk low kn p) (b : PBal) (k : Int) (x : PReq) (c : List PVote) : tkOk low (stD low kn b k x c).1 p := by
  unfold stD
  split
  · rename_i hk
    cases hv : doneS (atL kn k) b x c with
    | none => exact h
    | some s =>
      refine tk_put h (fun e hi => ?_) hk
      obtain ⟨h1, h2⟩ := h.2 (e ▸ hi)
      rw [← e] at h1 h2
      unfold doneS at hv
      split at hv
      · cases hv
      · split at hv
        · cases hv; exact ⟨h1, h2⟩
        · cases hv; exact ⟨h1, h2⟩
  · exact h
theorem tk_cut {low : Int} {kn : List (Int × PSl)} {p : PPrep} (h : tkOk low kn p) (l2 : Int) : tkOk (stC low kn l2).1 (stC low kn l2).2 p := by
  unfold stC
  split
  · exact h
  · rename_i hn
    refine ⟨by have := h.1; simp only; omega, fun hi => ?_⟩
    have hi := inW_iff.1 hi
    have h1 := h.1
    simp only at hi ⊢
    rw [at_cut, if_pos hi.1]
    exact h.2 (inW_iff.2 ⟨by omega, h1⟩)
end
end Go.Proofs.Ytjloehkolnjnhaa

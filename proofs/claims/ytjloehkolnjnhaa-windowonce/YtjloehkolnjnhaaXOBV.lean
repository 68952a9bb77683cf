/- WindowOnce, plain: what stays true of votes that were taken, whatever is done. -/
import Derived.Test.YtjloehkolnjnhaaXOBP
set_option linter.unusedVariables false
namespace Go.Proofs.Ytjloehkolnjnhaa
open Go.RowKit Oct Kvl Bal
def tkOk (low : Int) (kn : List (Int × PSl)) (p : PPrep) : Prop := p.1 ≤ low + 16 ∧ (inW low p.1 = true → (atL kn p.1).hv = true ∧ notUp p.2.1 (atL kn p.1).voted p.2.2.1 (atL kn p.1).vote)
theorem inW_iff {low k : Int} : inW low k = true ↔ low < k ∧ k ≤ low + 16 := by simp [inW]
theorem tk_put {low : Int} {kn : List (Int × PSl)} {p : PPrep} (h : tkOk low kn p) {k : Int} {s : PSl} (hs : k = p.1 → inW low k = true → s.hv = true ∧ notUp p.2.1 s.voted p.2.2.1 s.vote) (hk : inW low k = true) : tkOk low (putL kn k s) p := by
  refine ⟨h.1, fun hi => ?_⟩
  rw [at_put]
  split
  · rename_i e
    exact hs e.symm hk
  · exact h.2 hi
theorem tk_vote {low : Int} {kn : List (Int × PSl)} {p : PPrep} (h : tkOk low kn p) (b : PBal) (k : Int) (x : PReq) : tkOk low (stV low kn b k x).1 p ∧ ((stV low kn b k x).2 = 0 → p.1 = k → notUp p.2.1 b p.2.2.1 x) := by
  unfold stV
  split
  · rename_i hk
    cases hv : voteS (atL kn k) b x with
    | none => exact ⟨h, fun e => by simp at e⟩
    | some s =>
      have key : k = p.1 → notUp p.2.1 b p.2.2.1 x ∧ s.hv = true ∧ s.voted = b ∧ s.vote = x := fun e => by
        obtain ⟨h1, h2⟩ := h.2 (e ▸ hk)
        rw [← e] at h1 h2
        unfold voteS at hv
        split at hv
        · cases hv
        · rename_i hf
          cases hv
          have hf : fitL (atL kn k).voted b (atL kn k).vote x = true := by
            rw [h1] at hf
            simpa using hf
          exact ⟨notUp_fit h2 hf, rfl, rfl, rfl⟩
      exact ⟨tk_put h (fun e _ => by obtain ⟨k1, k2, k3, k4⟩ := key e; exact ⟨k2, by rw [k3, k4]; exact k1⟩) hk, fun _ e => (key e.symm).1⟩
  · exact ⟨h, fun e => by simp at e⟩
theorem tk_new {low : Int} {kn : List (Int × PSl)} {b : PBal} {k : Int} {x : PReq} {c : List PVote} (h : (stV low kn b k x).2 = 0) : tkOk low (stV low kn b k x).1 (k, b, x, c) := by
  unfold stV at h ⊢
  split at h
  · rename_i hk
    rw [if_pos hk]
    cases hv : voteS (atL kn k) b x with
    | none => rw [hv] at h; simp at h
    | some s =>
      refine ⟨(inW_iff.1 hk).2, fun _ => ?_⟩
      simp only
      rw [at_put, if_pos rfl]
      unfold voteS at hv
      split at hv
      · cases hv
      · cases hv
        exact ⟨rfl, notUp_self _ _⟩
  · simp at h
theorem tk_prep {low : Int} {kn : List (Int × PSl)} {p : PPrep} (h : tkOk low kn p) (b : PBal) (k : Int) (x : PReq) (c : List PVote) : tkOk low (stP low kn b k x c).1 p := by
  unfold stP
  split
  · rename_i hk
    cases hv : prepS (atL kn k) b x c with
    | none => exact h
    | some s =>
      refine tk_put h (fun e hi => ?_) hk
      obtain ⟨h1, h2⟩ := h.2 (e ▸ hi)
      rw [← e] at h1 h2
      unfold prepS at hv
      split at hv
      · cases hv
      · cases hv
        exact ⟨h1, h2⟩
  · exact h
theorem tk_done {low : Int} {kn : List (Int × PSl)} {p : PPrep} (h : tkOk low kn p) (b : PBal) (k : Int) (x : PReq) (c : List PVote) : tkOk low (stD low kn b k x c).1 p := by
  unfold stD
  split
  · rename_i hk
    cases hv : doneS (atL kn k) b x c with
    | none => exact h
    | some s =>
      refine tk_put h (fun e hi => ?_) hk
      obtain ⟨h1, h2⟩ := h.2 (e ▸ hi)
      rw [← e] at h1 h2
      unfold doneS at hv
      split at hv
      · cases hv
      · split at hv
        · cases hv; exact ⟨h1, h2⟩
        · cases hv; exact ⟨h1, h2⟩
  · exact h
theorem tk_cut {low : Int} {kn : List (Int × PSl)} {p : PPrep} (h : tkOk low kn p) (l2 : Int) : tkOk (stC low kn l2).1 (stC low kn l2).2 p := by
  unfold stC
  split
  · exact h
  · rename_i hn
    refine ⟨by have := h.1; simp only; omega, fun hi => ?_⟩
    have hi := inW_iff.1 hi
    have h1 := h.1
    simp only at hi ⊢
    rw [at_cut, if_pos hi.1]
    exact h.2 (inW_iff.2 ⟨by omega, h1⟩)
end Go.Proofs.Ytjloehkolnjnhaa

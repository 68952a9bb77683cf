/- WindowOnce, plain: what stays true of what was done, whatever is done. -/
import Derived.Test.YtjloehkolnjnhaaXOBV
set_option linter.unusedVariables false
namespace Go.Proofs.Ytjloehkolnjnhaa
open Go.RowKit Oct Kvl Bal
def dnOk (low : Int) (kn : List (Int × PSl)) (p : PPrep) : Prop := p.1 ≤ low + 16 ∧ (inW low p.1 = true → (atL kn p.1).hd = true ∧ (atL kn p.1).done = p.2.2.1)
theorem dn_put {low : Int} {kn : List (Int × PSl)} {p : PPrep} (h : dnOk low kn p) {k : Int} {s : PSl} (hs : k = p.1 → s.hd = true ∧ s.done = p.2.2.1) : dnOk low (putL kn k s) p := by
  refine ⟨h.1, fun hi => ?_⟩
  rw [at_put]
  split
  · rename_i e
    exact hs e.symm
  · exact h.2 hi
theorem dn_vote {low : Int} {kn : List (Int × PSl)} {p : PPrep} (h : dnOk low kn p) (b : PBal) (k : Int) (x : PReq) : dnOk low (stV low kn b k x).1 p := by
  unfold stV
  split
  · rename_i hk
    cases hv : voteS (atL kn k) b x with
    | none => exact h
    | some s =>
      refine dn_put h (fun e => ?_)
      obtain ⟨h1, h2⟩ := h.2 (e ▸ hk)
      rw [← e] at h1 h2
      unfold voteS at hv
      split at hv
      · cases hv
      · cases hv; exact ⟨h1, h2⟩
  · exact h
theorem dn_prep {low : Int} {kn : List (Int × PSl)} {p : PPrep} (h : dnOk low kn p) (b : PBal) (k : Int) (x : PReq) (c : List PVote) : dnOk low (stP low kn b k x c).1 p := by
  unfold stP
  split
  · rename_i hk
    cases hv : prepS (atL kn k) b x c with
    | none => exact h
    | some s =>
      refine dn_put h (fun e => ?_)
      obtain ⟨h1, h2⟩ := h.2 (e ▸ hk)
      rw [← e] at h1 h2
      unfold prepS at hv
      split at hv
      · cases hv
      · cases hv; exact ⟨h1, h2⟩
  · exact h
theorem dn_done {low : Int} {kn : List (Int × PSl)} {p : PPrep} (h : dnOk low kn p) (b : PBal) (k : Int) (x : PReq) (c : List PVote) : dnOk low (stD low kn b k x c).1 p ∧ ((stD low kn b k x c).2 = 0 → p.1 = k → p.2.2.1 = x) := by
  unfold stD
  split
  · rename_i hk
    cases hv : doneS (atL kn k) b x c with
    | none => exact ⟨h, fun e => by simp at e⟩
    | some s =>
      have key : k = p.1 → (s.hd = true ∧ s.done = p.2.2.1) ∧ p.2.2.1 = x := fun e => by
        obtain ⟨h1, h2⟩ := h.2 (e ▸ hk)
        rw [← e] at h1 h2
        unfold doneS at hv
        rw [h1] at hv
        split at hv
        · cases hv
        · rename_i hf
          simp only [if_true] at hv
          cases hv
          refine ⟨⟨h1, h2⟩, ?_⟩
          rw [h2] at hf
          simpa using hf
      exact ⟨dn_put h (fun e => (key e).1), fun _ e => (key e.symm).2⟩
  · exact ⟨h, fun e => by simp at e⟩
theorem dn_new {low : Int} {kn : List (Int × PSl)} {b : PBal} {k : Int} {x : PReq} {c : List PVote} (h : (stD low kn b k x c).2 = 0) : dnOk low (stD low kn b k x c).1 (k, b, x, c) := by
  unfold stD at h ⊢
  split at h
  · rename_i hk
    rw [if_pos hk]
    cases hv : doneS (atL kn k) b x c with
    | none => rw [hv] at h; simp at h
    | some s =>
      refine ⟨(inW_iff.1 hk).2, fun _ => ?_⟩
      simp only
      rw [at_put, if_pos rfl]
      unfold doneS at hv
      split at hv
      · cases hv
      · rename_i hf
        split at hv
        · rename_i h1
          cases hv
          refine ⟨h1, ?_⟩
          rw [h1] at hf
          simpa using hf
        · cases hv
          exact ⟨rfl, rfl⟩
  · simp at h
theorem dn_cut {low : Int} {kn : List (Int × PSl)} {p : PPrep} (h : dnOk low kn p) (l2 : Int) : dnOk (stC low kn l2).1 (stC low kn l2).2 p := by
  unfold stC
  split
  · exact h
  · rename_i hn
    refine ⟨by have := h.1; simp only; omega, fun hi => ?_⟩
    have hi := inW_iff.1 hi
    have h1 := h.1
    simp only at hi ⊢
    rw [at_cut, if_pos hi.1]
    exact h.2 (inW_iff.2 ⟨by omega, h1⟩)
end Go.Proofs.Ytjloehkolnjnhaa

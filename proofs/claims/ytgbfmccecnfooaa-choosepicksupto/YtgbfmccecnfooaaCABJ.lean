/- What the Upto bound says of all Preps of reports together. -/
import Derived.Test.YtgbfmccecnfooaaCAAV
import Derived.Test.YtgbfmccecnfooaaCABD
namespace Go.Proofs.Ytgbfmccecnfooaa
open Go.RowKit Oct Bal
theorem bS_length {α : Type} (f : α → Nat) (hf : ∀ x, 1 ≤ f x) (l : List α) : l.length ≤ bS f l := by
  induction l with
  | nil => exact Nat.zero_le _
  | cons x l ih =>
    have hx := hf x
    show l.length + 1 ≤ f x + bS f l
    omega
theorem allP_bS (rs : List PRep) : (allP rs).length ≤ bS bR rs := by
  induction rs with
  | nil => exact Nat.zero_le _
  | cons r rs ih =>
    have h1 : r.2.2.2.2.2.1.length ≤ bS bP r.2.2.2.2.2.1 := bS_length bP (fun x => by show 1 ≤ 5 + bQ x.2.2.1 + bL bV x.2.2.2; omega) _
    have h2 : bS bP r.2.2.2.2.2.1 ≤ bR r := by
      show bS bP r.2.2.2.2.2.1 ≤ 6 + bT r.2.2.2.1 + bL bV r.2.2.2.2.1 + (bS bP r.2.2.2.2.2.1 + 1) + bT r.2.2.2.2.2.2
      omega
    have h3 : (allP (r :: rs)).length = r.2.2.2.2.2.1.length + (allP rs).length := by
      show (r.2.2.2.2.2.1 ++ allP rs).length = _
      exact List.length_append
    show (allP (r :: rs)).length ≤ bR r + bS bR rs
    omega
theorem allP_upto {rs : List PRep} (h : bL bR rs ≤ 1048576) : (allP rs).length * 112 ≤ 140737488355328 := by
  have h1 := allP_bS rs
  have h2 : bS bR rs + 1 ≤ 1048576 := h
  omega
theorem bS_memC {α : Type} {f : α → Nat} {y : α} : ∀ {l : List α}, y ∈ l → f y ≤ bS f l
  | x :: l, h => by
    rcases List.mem_cons.1 h with rfl | h
    · exact Nat.le_add_right _ _
    · exact Nat.le_trans (bS_memC h) (Nat.le_add_left _ _)
theorem szV_cB {x : PVote} (h : bV x ≤ 2000000) : szV x := by
  simp only [bV, bT] at h
  show szT x.2
  unfold szT
  omega
theorem szL_cB {α : Type} {b : Nat} {p : α → Prop} {f : α → Nat} (hf : ∀ y, 1 ≤ f y) {ys : List α} (hb : b ≤ 1000) (h : bL f ys ≤ 2000000) (hp : ∀ y, f y ≤ 2000000 → p y) : szL b p ys := by
  simp only [bL] at h
  have h1 := bS_length f hf ys
  have h2 : ys.length * b ≤ 2000000 * 1000 := Nat.mul_le_mul (by omega) hb
  exact ⟨by omega, fun y hy => hp y (by have := bS_memC (f := f) hy; omega)⟩
theorem szQ_cB {x : PReq} (h : bQ x ≤ 2000000) : szQ x := by
  simp only [bQ, bT] at h
  exact ⟨by unfold szT; omega, by unfold szT; omega⟩
theorem szP_cB {x : PPrep} (h : bP x ≤ 2000000) : szP x := by
  simp only [bP] at h
  exact ⟨szQ_cB (by omega), szL_cB (f := bV) (fun y => by simp only [bV]; omega) (by decide) (by omega) fun y hy => szV_cB hy⟩
theorem szR_cB {x : PRep} (h : bR x ≤ 2000000) : szR x := by
  simp only [bR] at h
  refine ⟨?_, szL_cB (f := bV) (fun y => by simp only [bV]; omega) (by decide) (by omega) fun y hy => szV_cB hy, szL_cB (f := bP) (fun y => by simp only [bP]; omega) (by decide) (by omega) fun y hy => szP_cB hy, ?_⟩
  · simp only [bT] at h; unfold szT; omega
  · simp only [bT] at h; unfold szT; omega
theorem reps_sz {rs : List PRep} (h : bL bR rs ≤ 1048576) : szL 128 szR rs := szL_cB (fun y => by simp only [bR]; omega) (by decide) (by omega) (fun y hy => szR_cB hy)
end Go.Proofs.Ytgbfmccecnfooaa

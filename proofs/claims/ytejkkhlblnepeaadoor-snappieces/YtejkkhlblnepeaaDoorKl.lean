/- The walks over package kv: Do. -/
import Derived.Test.YtejkkhlblnepeaaDoorKk
set_option linter.unusedVariables false
set_option linter.unusedSimpArgs false
namespace Go.Proofs.YtejkkhlblnepeaaDoor
open Go.RowKit Oct Kvl

theorem there_do {ys : List PEnt} {o : POp} {u : List Int} (h : getR o.2.1 ys = some u) : thereL ys (pos o.2.1 ys) o.2.1 u o = doR ys o := by
  unfold thereL doR
  rw [h]
  simp only
  by_cases h1 : o.1 = 1
  · rw [if_pos h1, if_pos h1]
  rw [if_neg h1, if_neg h1]
  by_cases h2 : o.1 = 2
  · rw [if_pos h2, if_pos h2, put_old h]
  rw [if_neg h2, if_neg h2]
  by_cases h3 : o.1 = 3
  · rw [if_pos h3, if_pos h3, put_old h]
  rw [if_neg h3, if_neg h3, del_old h]
def addL (ys : List PEnt) (p : Nat) (o : POp) : List PEnt × Int × List Int := if 64 ≤ ys.length then (ys, 3, []) else (insL p (o.2.1, o.2.2.1) ys, 0, [])
theorem add_do {ys : List PEnt} {o : POp} (h : getR o.2.1 ys = none) (hk : o.1 = 2) : addL ys (pos o.2.1 ys) o = doR ys o := by
  unfold addL doR insL
  rw [h]
  simp only
  rw [if_pos hk, put_new h]
theorem miss_do {ys : List PEnt} {o : POp} (h : getR o.2.1 ys = none) (hk : o.1 ≠ 2) : (ys, 1, []) = doR ys o := by
  unfold doR
  rw [h]
  simp only
  rw [if_neg hk]

theorem LB.weak {α : Type} {R : (Nat → Prop) → World → List Value → α → Prop} (hR : Mov R) {t : TypeId} {k B C : Nat} {w : World} {v : Value} {ys : List α} (h : LB R t k B w v ys) (hC : C ≤ B) : LB R t k C w v ys := by
  obtain ⟨rows, h0, h1, h2, h3⟩ := h
  exact ⟨rows, h0, h1, h2.mono hC, h3.mono fun r a h => hR _ _ w w r a h (Nat.le_refl _) fun j hj _ => ⟨rfl, Nat.le_trans hC hj.1, hj.2⟩⟩


theorem RT.weak {G : Nat → Prop} {w : World} {v : Value} {l : List Int} (h : RT G w v l) : RT Any w v l := h.mv Mv.any

end Go.Proofs.YtejkkhlblnepeaaDoor

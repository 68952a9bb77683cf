/- catenarylaw05.MsgOnly. -/
import Derived.Test.YtogifpainhepoabMAlive
set_option linter.unusedVariables false
namespace Go.Proofs.Ytogifpainhepoab
open Go.RowKit Oct

theorem decE_cases (l : List Int) (hb : Byt l) : (decE l ≠ 0 ∧ decM l = zeroM) ∨ (decE l = 0 ∧ badM (decM l) = false ∧ byM (decM l) = l ∧ l.length ≤ 1048576) := by
  by_cases hl : 1048576 < l.length
  · obtain ⟨e1, e2⟩ := decE_many hl
    exact .inl ⟨by rw [e1]; decide, e2⟩
  · cases hr : rdM l with
    | none =>
      obtain ⟨e1, e2⟩ := decE_bad hl hr
      exact .inl ⟨by rw [e1]; decide, e2⟩
    | some m =>
      obtain ⟨e1, e2⟩ := decE_ok hl hr
      obtain ⟨h1, h2⟩ := rdM_bwd hb hr
      exact .inr ⟨e1, by rw [e2]; exact h1, by rw [e2]; exact h2, by omega⟩
theorem encode_back {m : PMsg} {l : List Int} (h1 : badM m = false) (h2 : byM m = l) (h3 : l.length ≤ 1048576) : encE m = 0 ∧ encB m = l := by
  have e := encE_ok h1 (by rw [h2]; omega)
  exact ⟨e, by unfold encB; rw [if_pos e, h2]⟩
theorem SOk.any {B : Nat} {w : World} {m : PMsg} {s : SV} (h : SOk (From B) w m s) : SOk Any w m s := h.mv (Nat.le_refl _) Mv.any
theorem zok (w : World) : SOk Any w zeroM sv0 := SOk.zero _ _ 0

end Go.Proofs.Ytogifpainhepoab

/- catenaryref04.Same of slots (out of B4). -/
import Derived.Test.YtgpkngiakhdmhaaDoorSBBS
import Derived.BigQuiet
import Derived.Deep.QuietTactic
set_option linter.unusedSimpArgs false
set_option linter.unusedVariables false
namespace Go.Proofs.YtgpkngiakhdmhaaDoor
open Go.RowKit Oct
theorem getZ_some {l : List Int} {k : Nat} {x : Int} (h : k < l.length) (e : x = l.getD k 0) : l[k]? = some x := by
  rw [e, List.getD_eq_getElem?_getD, List.getElem?_eq_getElem h]
  rfl
theorem rlz_at {w : World} {v : Value} {l : List Int} (h : RL RInt 1 Any w v l) (hl : 0 < l.length) : ∃ b off cap, v = .slice (some ⟨b, off, none⟩) l.length cap ∧ l.length ≤ cap ∧ cap ≤ maxLen ∧ b < w.heap.size ∧ ∀ j, j < l.length → w.cell? ⟨b, off + j, none⟩ = some (.int .i64 (l.getD j 0)) := by
  obtain ⟨b, off, cap, e, h1, h2, _, h4, hat⟩ := h.at hl
  refine ⟨b, off, cap, e, h1, h2, h4, fun j hj => ?_⟩
  obtain ⟨r, _, hr, he⟩ := hat j _ (List.getElem?_eq_getElem hj)
  have he : r = [.int .i64 l[j]] := he
  subst he
  have := hr 0 _ rfl
  rw [show off + j * 1 + 0 = off + j by omega] at this
  rw [this, List.getD_eq_getElem?_getD, List.getElem?_eq_getElem hj]
  rfl
theorem rlz_len {w : World} {v : Value} {l : List Int} (h : RL RInt 1 Any w v l) : (l.length : Int) ≤ 9223372036854775807 := by
  by_cases hl : 0 < l.length
  · obtain ⟨_, _, _, _, h1, h2, _⟩ := h.at hl
    unfold maxLen at h2
    omega
  · omega
end Go.Proofs.YtgpkngiakhdmhaaDoor

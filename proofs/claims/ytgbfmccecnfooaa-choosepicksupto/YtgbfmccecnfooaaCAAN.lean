/- The walks over package octet: texts; and over the document's own answers. -/
import Derived.Test.YtgbfmccecnfooaaCAAJ
import Derived.Laws.CopyOwn
namespace Go.Proofs.Ytgbfmccecnfooaa
open Go.RowKit Oct
theorem Rd.form {w : World} {v : Value} {l : List Int} (h : Rd w v l) : ∃ ao cap, v = .slice ao l.length cap ∧ cap ≤ maxLen := by
  obtain ⟨_, ao, cap, rfl, _, h2, _⟩ := h
  exact ⟨ao, cap, by rw [bc_len], h2⟩
end Go.Proofs.Ytgbfmccecnfooaa

/- The walks over the document's comparisons: messages. (Laid by mk5s.py.) -/
import Derived.Test.YtgbfmccecnfooaaCABK
set_option linter.unusedSimpArgs false
set_option linter.unusedVariables false
namespace Go.Proofs.Ytgbfmccecnfooaa
open Go.RowKit Oct
theorem keep_cell {w u : World} (hu : Below w.heap.size w u) {a : Addr} {v : Value} (h : w.cell? a = some v) : u.cell? a = some v := (hu.cell (World.block_lt_of_cell? w a h)).trans h
theorem rl_len {α : Type} {R : (Nat → Prop) → World → List Value → α → Prop} {k : Nat} {G : Nat → Prop} {w : World} {v : Value} {ys : List α} (h : RL R k G w v ys) : (ys.length : Int) ≤ 9223372036854775807 := by
  rcases Nat.eq_zero_or_pos ys.length with h0 | h0
  · omega
  · obtain ⟨_, _, c, e, h1, h2, _⟩ := h.at h0
    unfold maxLen at h2
    omega
end Go.Proofs.Ytgbfmccecnfooaa

/- catenarylaw08.LeaseNames: its walk. -/
import Derived.Test.YtbnioibeckifbaaZm
set_option linter.unusedVariables false
set_option linter.unusedSimpArgs false
namespace Go.Proofs.Ytbnioibeckifbaa
open Go.RowKit Oct Kvl

set_option maxRecDepth 10000 in
theorem leaseNames_any (w : World) : Calls Try.prog 4 #[] w fun e w' => e = .returned (.bool true) ∧ Below w.heap.size w w' := by
  obtain ⟨w1, hw1⟩ : ∃ w1, w1 = w.alloc (.cells #[.int .u8 97] 5 (1, 2)) := ⟨_, rfl⟩
  have B1 : Below w.heap.size w w1 := by rw [hw1]; exact below_alloc _ _
  have r1 : Rd w1 (.slice (some ⟨w.heap.size, 0, none⟩) 1 1) [97] := by rw [hw1]; exact litB w 97 (by decide)
  have hH := holder_any w1 (.slice none 0 0) [] (RL.nil _ _ _ _) _ _ r1 0
  have v0 := cvtB
  go_enter Try.func4, Try.ntmps4
  go_wp2_with fail
  rw [← hw1]
  clear hw1
  refine hH.mono ?_
  rintro e w2 ⟨rfl, hb2⟩
  have hA := leaseAlive_any w2
  go_wp2_with (go_at_call 19; refine hA.mono ?_; rintro e w3 ⟨rfl, hb3⟩)
  go_ret
  exact ⟨rfl, below_and (below_and B1 (Nat.le_refl _) hb2) (Nat.le_refl _) hb3⟩
end Go.Proofs.Ytbnioibeckifbaa

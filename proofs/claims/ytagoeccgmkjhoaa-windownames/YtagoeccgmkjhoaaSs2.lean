/- Sealed messages: vote.withSig. -/
import Derived.Test.YtagoeccgmkjhoaaLc
import Derived.Deep.MidRow
set_option linter.unusedVariables false
set_option linter.unusedSimpArgs false
namespace Go.Proofs.Ytagoeccgmkjhoaa
open Go.RowKit Oct

/-- Blocks that were there and of which G holds, or new ones. -/
def GN (G : Nat → Prop) (w : World) : Nat → Prop := fun k => (G k ∧ k < w.heap.size) ∨ w.heap.size ≤ k
theorem RL.single {α : Type} {R : (Nat → Prop) → World → List Value → α → Prop} {k b : Nat} {G : Nat → Prop} {u : World} {t : TypeId} {r : List Value} {a : α} (h : Row u b t r) (hr : R G u r a) (hG : G b) (hl : r.length = k) : RL R k G u (.slice (some ⟨b, 0, none⟩) 1 1) [a] := by
  refine ⟨[r], ⟨fun x hx => by simp at hx; subst hx; exact hl, .inr ⟨b, 0, 1, rfl, Nat.le_refl _, by unfold maxLen; decide, by simp, hG, h.lt, fun i x hx => ?_⟩⟩, hr, trivial⟩
  cases i with
  | zero =>
    simp at hx
    subst hx
    intro j v hj
    have := h.cell hj
    simpa using this
  | succ i => simp at hx
theorem Mv.toN {G : Nat → Prop} {w u : World} (h : Below w.heap.size w u) : Mv G (GN G w) w u := fun k hk hlt => ⟨h.block k hlt, .inl ⟨hk, hlt⟩⟩
end Go.Proofs.Ytagoeccgmkjhoaa

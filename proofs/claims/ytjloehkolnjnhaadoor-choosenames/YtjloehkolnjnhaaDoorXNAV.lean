/- The walks over package msg: the writer. -/
import Derived.Test.YtjloehkolnjnhaaDoorXNAQ
namespace Go.Proofs.YtjloehkolnjnhaaDoor
open Go.RowKit Oct
/-- A writer at block b, behind which so many bytes stand; w0: the world ahead of it. -/
structure WS (w0 w : World) (b : Nat) (done : List Int) : Prop where
  bel : Below w0.heap.size w0 w
  hb : w0.heap.size ≤ b
  st : ∃ v many lo, Row w b 74 [v, .bool many] ∧ Own w 5 v (bc lo) ∧ Byt lo ∧ Fr w0.heap.size v ∧ lo.length ≤ 1048576 ∧ (many = false → lo = done) ∧ (many = true ↔ 1048576 < done.length)
/-- What a writer may turn: itself, and rows of bytes. -/
structure UFr (b : Nat) (w w' : World) : Prop where
  size : w.heap.size ≤ w'.heap.size
  block : ∀ k, k < w.heap.size → k ≠ b → (∀ cs f, w.heap[k]? ≠ some (.cells cs 5 f)) → w'.heap[k]? = w.heap[k]?
theorem UFr.refl (b : Nat) (w : World) : UFr b w w := ⟨Nat.le_refl _, fun _ _ _ _ => rfl⟩
theorem UFr.trans {b : Nat} {w w1 w2 : World} (h : UFr b w w1) (h' : UFr b w1 w2) : UFr b w w2 :=
  ⟨Nat.le_trans h.size h'.size, fun k hk hb hn => by
    have e := h.block k hk hb hn
    rw [h'.block k (Nat.lt_of_lt_of_le hk h.size) hb (by rw [e]; exact hn), e]⟩
theorem UFr.below {b : Nat} {w w' : World} (h : Below w.heap.size w w') : UFr b w w' := ⟨h.size, fun k hk _ _ => h.block k hk⟩
end Go.Proofs.YtjloehkolnjnhaaDoor

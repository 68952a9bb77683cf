/- sha.block. -/
import Derived.Test.YtjloehkolnjnhaaDoorXNBP
namespace Go.Proofs.YtjloehkolnjnhaaDoor
open Go.RowKit Oct Sha
/-- The constants' variable. -/
def Tab (w : World) : Prop := ∀ t, t < 64 → w.cell? ⟨1, t, none⟩ = some (.int .u32 (wi (kk.getD t 0)))
theorem Tab.keep {w w' : World} (h : Tab w) (h0 : w'.heap[1]? = w.heap[1]?) : Tab w' := fun t ht => (World.cell?_of_block (w := w) (w' := w') (a := ⟨1, t, none⟩) h0).trans (h t ht)
theorem Tab.pos {w : World} (h : Tab w) : 1 < w.heap.size := World.block_lt_of_cell? w _ (h 0 (by decide))
theorem Tab.below {w w' : World} (h : Tab w) (hb : Below w.heap.size w w') : Tab w' := h.keep (hb.block 1 h.pos)
theorem Tab.grown {w w' : World} {r : Option Nat} (h : Tab w) (hg : w.grownBy w' r) (hr : r ≠ some 1) : Tab w' := h.keep (hg.block 1 h.pos (fun e => hr e.symm))
end Go.Proofs.YtjloehkolnjnhaaDoor
